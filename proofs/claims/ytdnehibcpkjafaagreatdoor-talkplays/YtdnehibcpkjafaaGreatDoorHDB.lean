/- What TalkPlays needs. -/
import Derived.Test.YtdnehibcpkjafaaGreatDoorHDA
import Derived.Test.YtdnehibcpkjafaaGreatDoorHD
import Derived.Deep.CutBlock
set_option linter.unusedVariables false
set_option linter.unusedSimpArgs false
set_option maxRecDepth 100000
set_option maxHeartbeats 8000000
namespace Go.Proofs.YtdnehibcpkjafaaGreatDoor
open Go.RowKit Go.Lib Go.Sort
open Sx (bat)
def ackL (e:En):List F:=if e.cm= [] then [] else [(2,unr e.cm,nilB)]
theorem zmf {w:World} {B B' e e' s s' n m:Nat} {u v:Value} {xs ys:List Value} (h:w.ownsRow B e s u n xs) (h':w.ownsRow B' e' s' v m ys) (hne:e≠e'):∀k,u.ownBlock=some k→v.ownBlock≠some k:=by
 intro k hk hv
 rcases h.2 with ⟨rfl,_⟩ | ⟨g,cap,cur,rfl,_,hg,_⟩
 ·cases hk
 ·rcases h'.2 with ⟨rfl,_⟩ | ⟨g',cap',cur',rfl,_,hg',_⟩
  ·cases hv
  ·have e1:g=k:=by simpa [Value.ownBlock] using hk
   have e2:g'=k:=by simpa [Value.ownBlock] using hv
   subst e1
   subst e2
   rw [hg] at hg'
   injection hg' with e3
   injection e3 with e4 e5
   exact hne e5
theorem zr2 {w:World} {B:Nat} {v:Value} {xs:List Int} {a b:Int} (h:w.ownsRow B 3 1 v (xs.length+2) (ivs xs++ivs [a,b])):OwnI w B v (xs++ [a,b]):=by
 show w.ownsRow B 3 1 v (xs++ [a,b]).length (ivs (xs++ [a,b]))
 rw [zh7,List.length_append]
 exact h
def PS (e:En) (k:Nat) (l:List Pc) (fr:Int):Prop:=
 (k≤e.t∧l= []∧fr= -1)∨(e.t<k∧k≤en e∧∃f:Nat,fr=(f:Int)∧f=e.t+20*l.length∧f<k∧k≤f+20∧l++pcs e.d (en e) (3-l.length) f=pieces e)∨(en e<k∧fr= -1∧l=pieces e)
theorem zB8 {e:En} {l:List Pc} {f k:Nat} (h1:f<en e) (h2:k≤en e) (hk:k=f+20) (hl:l.length≤2):(l++ [(f,e.d.extract f k)])++pcs e.d (en e) (3-(l++ [(f,e.d.extract f k)]).length) k=l++pcs e.d (en e) (3-l.length) f:=by
 obtain ⟨m,hm⟩:∃m,3-l.length=m+1:=⟨2-l.length,by omega⟩
 have h3:3-(l++ [(f,e.d.extract f k)]).length=m:=by simp;omega
 rw [h3,hm]
 simp only [pcs]
 rw [if_pos h1,show min (en e) (f+20)=k by omega,List.append_assoc]
 rfl
theorem zA4 {e:En} {l:List Pc} {f k:Nat} (h1:f<en e) (h2:en e≤f+20) (hk:k=en e) (hl:l.length≤2):l++ [(f,e.d.extract f k)]=l++pcs e.d (en e) (3-l.length) f:=by
 obtain ⟨m,hm⟩:∃m,3-l.length=m+1:=⟨2-l.length,by omega⟩
 rw [hm]
 simp only [pcs]
 rw [if_pos h1,show min (en e) (f+20)=en e by omega,zqu,hk]
theorem zxz {md:List (List Pc)} {p:List Pc} {j:Nat} (h:j<md.length):pat (md++ [p]) j=pat md j:=by simp [pat,List.getElem?_append_left h]
theorem zux {md:List (List Pc)} {p:List Pc}:pat (md++ [p]) md.length=p:=by simp [pat]
theorem Mds.make {e:En} {md:List (List Pc)} (h:Mds e md) (hi:EInv e) (hm:zcb e=0):Mds (zbn e) (md++ [pieces e]):=by
 rw [zd6 hm]
 have hp:=zna e
 have new:pat (md++ [pieces e]) e.m=pcs e.d (pk e).2 3 (pk e).1:=by
  have:=zux (md:=md) (p:=pieces e)
  rw [h.len] at this
  rw [this]
  exact hp
 have old:∀x∈e.ls,∀j,x.lo≤j→j≤x.hi→pat (md++ [pieces e]) j=pcs e.d x.b 3 x.a:=fun x hx j h1 h2=>by
  have:=(hi.ls x hx).1
  rw [zxz (by rw [h.len];omega)]
  exact h.each x hx j h1 h2
 refine ⟨by simp [h.len],fun x hx j h1 h2=> ?_,fun j hj=> ?_,fun x hx=> ?_,?_⟩
 ·simp only at hx
  unfold zd3 at hx
  cases hl:e.ls.getLast? with
  | none=>
   rw [hl] at hx
   simp at hx
   subst hx
   simp only at h1 h2 ⊢
   rw [show j=e.m by omega]
   exact new
  | some y=>
   rw [hl] at hx
   simp only at hx
   have hy:=List.mem_of_getLast? hl
   split at hx
   ·rename_i hab
    rcases List.mem_append.1 hx with hx | hx
    ·exact old x (List.dropLast_subset _ hx) j h1 h2
    ·simp at hx
     subst hx
     simp only at h1 h2 ⊢
     by_cases e1:j=e.m
     ·rw [e1];exact new
     ·have:=h.lst y hl
      rw [old y hy j h1 (by omega),hab.1,hab.2]
   ·rcases List.mem_append.1 hx with hx | hx
    ·exact old x hx j h1 h2
    ·simp at hx
     subst hx
     simp only at h1 h2 ⊢
     rw [show j=e.m by omega]
     exact new
 ·simp only at hj ⊢
  by_cases e1:j=e.m
  ·obtain ⟨x,hx,h2,_⟩:=zh6 (ls:=e.ls) (m:=e.m) (a:=(pk e).1) (b:=(pk e).2)
   have hxm:=List.mem_of_getLast? hx
   refine ⟨x,hxm,?_,by omega⟩
   rcases zes hxm with h3 | ⟨_,_,h3 | ⟨l0,h4,h5,_⟩⟩
   ·have:=(hi.ls x h3).1;omega
   ·omega
   ·have:=h.lst l0 h4
    have:=(hi.ls l0 (List.mem_of_getLast? h4)).1
    have:=h.low l0 (List.mem_of_getLast? h4)
    omega
  ·obtain ⟨x,hx,h1,h2⟩:=h.all j (by omega)
   obtain ⟨x',h3,h4,h5,_⟩:=zv9 (a:=(pk e).1) (b:=(pk e).2) h.lst hx
   exact ⟨x',h3,by omega,by omega⟩
 ·simp only at hx ⊢
  obtain ⟨y,h1,h2,_⟩:=zh6 (ls:=e.ls) (m:=e.m) (a:=(pk e).1) (b:=(pk e).2)
  rw [h1] at hx
  cases hx
  omega
 ·simp only at *
  exact zq9 h.low h.lst
theorem DO.made {w:World} {B eb sb cb:Nat} {vm vc:Value} {us:List Value} {md:List (List Pc)} {e:En} (h:DO w B eb vm vc sb cb us md e) (hm:zcb e=0) {W w':World} {v' u:Value} {l:List Pc} (hl:l=pieces e) (hb:Below w.heap.size w W) (hu:W.ownsRow w.heap.size 131 2 u l.length (zbi l)) (ho:w'.ownsRow B 101 1 v' (e.m+1) (us++ [u])) (hg:W.grownBy w' vm.ownBlock) (hv:v'.ownBlock=vm.ownBlock∨v'.ownBlock=some W.heap.size):DTurn w (w'.setCell ⟨eb,62,none⟩ v') B eb vm vc sb cb us (zbn e):=by
 have f1:Off (fun k=>vm.ownBlock=some k) W w':=Off.of_grown hg (fun k e=>e)
 have f2:Off (fun k=>k=eb) w' (w'.setCell ⟨eb,62,none⟩ v'):=(Off.refl (fun k=>k=eb) w').setCell (a:=⟨eb,62,none⟩) rfl v'
 have f:Off (fun k=>vm.ownBlock=some k∨k=eb) w (w'.setCell ⟨eb,62,none⟩ v'):=((Off.of_below hb).trans (f1.mono fun k _ hk=> .inl hk)).trans (f2.mono fun k _ hk=> .inr hk)
 have hvm:vm.ownBlock≠some eb:=fun e1=>(h.am eb (.inl e1)).1 rfl
 have hlt:=h.lt
 have hsz:=hb.size
 have nw:∀k,v'.ownBlock=some k→vm.ownBlock=some k∨w.heap.size≤k:=fun k hk=>by
  rcases hv with e1 | e1
  ·exact .inl (e1 ▸ hk)
  ·rw [hk] at e1;injection e1 with e1;exact .inr (by omega)
 have nu:∀k,u.ownBlock=some k→w.heap.size≤k:=fun k hk=>(hu.lt k hk).1
 have far:∀k,w.heap.size≤k→k≠eb∧k≠sb∧k≠cb:=fun k hk=>⟨by omega,by have:=h.st.lt;omega,by have:=h.cr.lt;omega⟩
 have hru:(w'.setCell ⟨eb,62,none⟩ v').ownsRow B 131 2 u l.length (zbi l):=za8 (f2.row (f1.row hu (fun k hk hk2=>by have:=nu k hk;have:=(h.rm.lt k hk2).2;omega)) (fun k hk hk2=>(far k (nu k hk)).1 hk2)) h.le
 rw [zd6 hm]
 have hinv:=h.inv.make
 have hmds:=h.mds.make h.inv hm
 rw [zd6 hm] at hinv hmds
 refine ⟨v',vc,us++ [u],md++ [pieces e],⟨hinv,hmds,fun i hi=> ?_,fun i=> ?_,h.hs,h.st.off f (fun hk=> ?_),h.cr.off f (fun hk=> ?_),?_,by simp [h.ul],fun j hj=> ?_,f.row h.cm (fun k hk hk2=> ?_),h.ap,fun k hk=> ?_⟩,f.mono (fun k _ hk=> ?_),fun k hk=> ?_⟩
 ·by_cases e1:i=62
  ·subst e1
   exact World.cell?_setCell_same _ _ _ (f1.cell ((hb.cell (p:=⟨eb,62,none⟩) hlt).trans (h.cl 62 (by omega))) hvm)
  ·rw [World.cell?_setCell_other _ _ _ _ (fun e2=>by injection e2 with _ e2 _;exact e1 e2.symm),f1.cell ((hb.cell (p:=⟨eb,i,none⟩) hlt).trans (h.cl i hi)) hvm]
   unfold zdv
   simp only [if_neg e1]
 ·rw [World.frozen?_setCell,f1.frozen (p:=⟨eb,i,none⟩) (Nat.lt_of_lt_of_le hlt hb.size) hvm]
  exact (World.frozen?_of_block (hb.block eb hlt)).trans (h.fz i)
 ·rcases hk with hk | hk
  ·exact (h.am sb (.inl hk)).2.1 rfl
  ·exact h.ap.1 hk.symm
 ·rcases hk with hk | hk
  ·exact (h.am cb (.inl hk)).2.2 rfl
  ·exact h.ap.2.1 hk.symm
 ·have:=f2.row ho (fun k hk hk2=>by rcases nw k hk with h1 | h1;exact (h.am k (.inl h1)).1 hk2;exact (far k h1).1 hk2)
  rw [List.length_append,h.ul]
  exact this
 ·rw [List.length_append,List.length_cons,List.length_nil] at hj
  by_cases e1:j=us.length
  ·rw [e1,zm1,h.ul,←h.mds.len,zux,←hl]
   exact hru
  ·have hj2:j<us.length:=by omega
   rw [zl0 hj2,zxz (by rw [h.mds.len,←h.ul];exact hj2)]
   refine f.row (h.ru j hj2) (fun k hk hk2=> ?_)
   rcases hk2 with hk2 | hk2
   ·exact zmf (h.ru j hj2) h.rm (by decide) k hk hk2
   ·exact (h.am k (.inr (.inr ⟨j,hj2,hk⟩))).1 hk2
 ·rcases hk2 with hk2 | hk2
  ·exact zmf h.cm h.rm (by decide) k hk hk2
  ·exact (h.am k (.inr (.inl hk))).1 hk2
 ·rcases hk with hk | hk | ⟨j,hj,hk⟩
  ·rcases nw k hk with h1 | h1
   ·exact h.am k (.inl h1)
   ·exact far k h1
  ·exact h.am k (.inr (.inl hk))
  ·rw [List.length_append,List.length_cons,List.length_nil] at hj
   by_cases e1:j=us.length
   ·rw [e1,zm1] at hk
    exact far k (nu k hk)
   ·rw [zl0 (by omega)] at hk
    exact h.am k (.inr (.inr ⟨j,by omega,hk⟩))
 ·rcases hk with hk | hk
  ·exact .inr (.inr (.inr (.inl hk)))
  ·exact .inl hk
 ·rcases hk with hk | hk | hk | hk | hk | ⟨j,hj,hk⟩
  ·exact .inl (.inl hk)
  ·exact .inl (.inr (.inl hk))
  ·exact .inl (.inr (.inr (.inl hk)))
  ·rcases nw k hk with h1 | h1
   ·exact .inl (.inr (.inr (.inr (.inl h1))))
   ·exact .inr h1
  ·exact .inl (.inr (.inr (.inr (.inr (.inl hk)))))
  ·rw [List.length_append,List.length_cons,List.length_nil] at hj
   by_cases e1:j=us.length
   ·rw [e1,zm1] at hk
    exact .inr (nu k hk)
   ·rw [zl0 (by omega)] at hk
    exact .inl (.inr (.inr (.inr (.inr (.inr ⟨j,by omega,hk⟩)))))
theorem zHn:(Tryz.prog.info? 101).map (fun i=>(i.zero,i.size,i.bytes))=some (some (.slice none 0 0),1,24):=by kernel_rfl
theorem zp3 (w:World) (y:Value) (t:TypeId):∀(j:Nat) (u:Value),[y][j]? =some u→(w.alloc (.cells #[y] t)).cell? ((⟨w.heap.size,0,none⟩:Addr).add j)=some u:=Sx.cell_one_new w y t
theorem zi3 {w:World} {B eb sb cb:Nat} {vm vc:Value} {us:List Value} {md:List (List Pc)} {e:En} (h:DO w B eb vm vc sb cb us md e) (hm:zcb e=0):Calls Tryz.prog 39 #[.pointer (some ⟨eb,0,none⟩)] w fun ex w'=>ex= .returned (.string (zbj e))∧DTurn w w' B eb vm vc sb cb us (zbn e):=by
 have HO:Hid (DO w B eb vm vc sb cb us md e):=h
 have HR:Hid (Row w vc e.cm):=zbo h.cm (by have:=((zbv e.cm).1 h.inv.cm).1;omega)
 obtain ⟨i0,hi0,hz0,hz1,hz2⟩:=info_parts zFx
 have HI:Hid (Tryz.prog.info? 3=some i0∧i0.zero=some (.int .i64 0)∧i0.size=1∧i0.bytes=8):=⟨hi0,hz0,hz1,hz2⟩
 obtain ⟨fi0,hf0,hy0,hy1,hy2⟩:=info_parts zvb
 have hlt:=h.lt
 have c64:=h.cl 64 (by omega)
 rw [zjq] at c64
 obtain ⟨aoc,cc,hvc⟩:=zcw h.cm
 rw [hvc] at c64
 have HVC:Hid (vc= .slice aoc e.cm.length cc):=hvc
 rw [hvc] at HR
 have HM:Hid (zcb e=0):=hm
 have c00:=h.cl 0 (by omega)
 rw [zkn] at c00
 have CT:Hid (∀i,i<60→w.cell? ⟨eb,1+i,none⟩=some (.bool (decide (i<e.t)))):=fun i hi=>by rw [h.cl (1+i) (by omega),zqp hi]
 have c61:=h.cl 61 (by omega)
 rw [zyb] at c61
 have c62:=h.cl 62 (by omega)
 rw [zka] at c62
 have c63:=h.cl 63 (by omega)
 rw [zuj] at c63
 obtain ⟨aom,cm,hvm⟩:=zcw h.rm
 have hrm:=h.rm
 rw [hvm,h.ul] at c62 hrm
 have HRM:Hid (w.ownsRow B 101 1 (.slice aom e.m cm) e.m us):=hrm
 have HVM:Hid (vm= .slice aom e.m cm):=by show _=_;rw [hvm,h.ul]
 have c66:=h.cl 66 (by omega)
 rw [zkd] at c66
 have cc1:=h.cr.four.c1
 have hcb:=h.cr.lt
 have HLM:Hid (0≤e.c.lim∧e.c.lim≤1073741823):=by have l1:=h.inv.c.l1;have l2:=h.inv.c.l2;have w1:=h.inv.c.w1;exact ⟨by omega,by omega⟩
 clear h hm hvc hi0 hz0 hz1 hz2 hvm hrm
 go_enter Tryz.func39,Tryz.ntmps39
 go_upto_if 19 with fail
 go_cut [3,4,5] (fun s3 s4 s5 wx=>∃ao c us0,s3= .slice ao (ackL e).length c∧Hid (FOwn wx w.heap.size (.slice ao (ackL e).length c) us0 (ackL e))∧Hid (Below w.heap.size w wx))
 case first=>
  by_cases h0:e.cm.length=0
  ·have e0:e.cm= []:=List.eq_nil_of_length_eq_zero h0
   have gc:¬(0:Int)<(e.cm.length:Int):=by omega
   have HA:Hid (ackL e= []):=by show _=_;unfold ackL;rw [if_pos e0]
   go_wp2_with fail
   go_meet
   exact ⟨none,0,[],by rw [HA.out];rfl,by show FOwn _ _ _ _ _;rw [HA.out];exact FOwn.nil _ _,Below.refl _ _⟩
  ·have e0:e.cm≠ []:=fun e1=>h0 (by rw [e1];rfl)
   have gc:(0:Int)<(e.cm.length:Int):=by omega
   have HA:Hid (ackL e= [(2,unr e.cm,nilB)]):=by show _=_;unfold ackL;rw [if_neg e0]
   have HGA:Hid (fF (2,unr e.cm,nilB)=0):=zr7 HO.out.inv.cm e0
   have hl12:=((zbv e.cm).1 HO.out.inv.cm).1
   obtain ⟨b,o,hao,hb,hC⟩:∃b o,aoc=some ⟨b,o,none⟩∧b<w.heap.size∧Cells w b o e.cm:=by
    obtain ⟨ao',c',h1,_,_,h2⟩:=HR.out
    injection h1 with i1 i2 i3
    subst i1
    rcases h2 with h2 | ⟨b,o,h3,h4,h5⟩
    ·exact absurd h2 e0
    ·exact ⟨b,o,h3,h4,h5⟩
   subst hao
   have HC:Hid (Cells w b o e.cm):=hC
   have bF0:=FBox.new w 2 (.slice none 0 0) {data:= #[]}
   have hB0:Below w.heap.size w (w.alloc (.cells #[.int .i64 2,.slice none 0 0,.string {data:= #[]}] 114)):=(Below.refl _ _).alloc (Nat.le_refl _) _
   clear hC e0 h0
   generalize hlen:e.cm.length=len at *
   have HLen:Hid (e.cm.length=len):=hlen
   clear hlen
   go_wp2_with fail
   generalize w.alloc (.cells #[.int .i64 2,.slice none 0 0,.string {data:= #[]}] 114)=W0 at bF0 hB0 ⊢
   rw [show decide (0<len)=true from decide_eq_true (by omega)]
   go_loopg [5] len (fun gk s5 wr=>∃(j:Nat) (v:Value),gk+j=len∧s5= .int .i64 (j:Int)∧FBox wr w.heap.size 2 v {data:= #[]}∧OwnI wr (w.heap.size+1) v (unr (e.cm.take j))∧Below w.heap.size w wr)
   case atStart=>exact ⟨0,_,by omega,rfl,bF0,World.ownsRow_nil _ _ _ _,hB0⟩
   case round=>
    clear bF0 hB0
    obtain ⟨j,v,hk1,rfl,bF,hown,hB⟩:=hrel
    have HK:Hid (gk+j=len):=hk1
    clear hk1
    obtain ⟨av,cv,rfl⟩:=zcw hown
    have f1:=bF.c1
    have q64:=(hB.cell (p:=⟨eb,64,none⟩) hlt).trans c64
    have hebr:eb<wr.heap.size:=Nat.lt_of_lt_of_le hlt hB.size
    have hsz:=bF.lt
    by_cases g1:(j:Int)<(len:Int)
    ·have gj0:(0:Int)≤(j:Int):=by omega
     have hjl:j<e.cm.length:=by have:=HLen.out;omega
     obtain ⟨c0,c1⟩:=HC.out j hjl
     have d0:wr.drew.cell? ⟨b,o+j*2,none⟩=some (.int .i64 (at' e.cm j).1):=(hB.cell (p:=⟨b,o+j*2,none⟩) hb).trans c0
     have d1:wr.drew.cell? ⟨b,o+j*2+1,none⟩=some (.int .i64 (at' e.cm j).2):=(hB.cell (p:=⟨b,o+j*2+1,none⟩) hb).trans c1
     have HNx:Hid (unr (e.cm.take (j+1))=unr (e.cm.take j)++ [(at' e.cm j).2,(at' e.cm j).1]):=by
      show _=_
      rw [take_at hjl,zeh];rfl
     have hul:(unr (e.cm.take j)).length≤24:=by rw [zb6,List.length_take];omega
     generalize at' e.cm j=y at *
     obtain ⟨lo,hi⟩:=y
     simp only at d0 d1 HNx
     have hbr:b<wr.heap.size:=Nat.lt_of_lt_of_le hb hB.size
     have e0:=(World.cell?_alloc_lt wr.drew (.cells #[.int .i64 hi,.int .i64 lo] 3) ⟨b,o+j*2,none⟩ hbr).trans d0
     have e1:=(World.cell?_alloc_lt wr.drew (.cells #[.int .i64 hi,.int .i64 lo] 3) ⟨b,o+j*2+1,none⟩ hbr).trans d1
     have f1d:wr.drew.cell? ⟨w.heap.size,1,none⟩=some (.slice av (unr (e.cm.take j)).length cv):=f1
     have f1a:=(World.cell?_alloc_lt wr.drew (.cells #[.int .i64 hi,.int .i64 lo] 3) ⟨w.heap.size,1,none⟩ bF.lt).trans f1d
     have f1b:(wr.alloc (.cells #[.int .i64 hi,.int .i64 lo] 3)).cell? ⟨w.heap.size,1,none⟩=some (.slice av (unr (e.cm.take j)).length cv):=f1a
     have f1c:(wr.alloc (.cells #[.int .i64 hi,.int .i64 lo] 3)).drew.cell? ⟨w.heap.size,1,none⟩=some (.slice av (unr (e.cm.take j)).length cv):=f1a
     have q64d:wr.drew.cell? ⟨eb,64,none⟩=some (.slice (some ⟨b,o,none⟩) len cc):=q64
     have HO2:Hid (OwnI wr.drew (w.heap.size+1) (.slice av (unr (e.cm.take j)).length cv) (unr (e.cm.take j))):=hown
     have cs:=zfg wr.drew hi lo
     have CS:Hid (∀j u,(ivs [hi,lo])[j]? =some u→(wr.drew.alloc (.cells #[.int .i64 hi,.int .i64 lo] 3)).cell? ((⟨wr.drew.heap.size,0,none⟩:Addr).add j)=some u):=cs
     have hnv:some w.heap.size≠(Value.slice av (unr (e.cm.take j)).length cv).ownBlock:=fun e=>by have:=(hown.lt _ e.symm).1;omega
     have hul2:Hid ((unr (e.cm.take j)).length≤24):=hul
     clear cs c0 c1 hjl hul f1
     have hbA:b<(wr.drew.alloc (.cells #[.int .i64 hi,.int .i64 lo] 3)).heap.size:=by rw [World.size_alloc];exact Nat.lt_succ_of_lt hbr
     have heA:eb<(wr.drew.alloc (.cells #[.int .i64 hi,.int .i64 lo] 3)).heap.size:=by rw [World.size_alloc];exact Nat.lt_succ_of_lt hebr
     have hn1:some b≠(Value.slice av (unr (e.cm.take j)).length cv).ownBlock:=fun e=>by have:=(hown.lt _ e.symm).1;omega
     have hn2:some eb≠(Value.slice av (unr (e.cm.take j)).length cv).ownBlock:=fun e=>by have:=(hown.lt _ e.symm).1;omega
     have hb1:b≠w.heap.size:=by omega
     have hb2:eb≠w.heap.size:=by omega
     go_upto_region 7 with fail
     refine wp_region_noPanic ?_
     refine wp_region_held_drew (S:=fun X=>X.cell? ⟨eb,64,none⟩=some (.slice (some ⟨b,o,none⟩) len cc)∧X.cell? ⟨b,o+j*2,none⟩=some (.int .i64 lo)∧X.cell? ⟨b,o+j*2+1,none⟩=some (.int .i64 hi)) (by kernel_rfl) ⟨q64d,d0,d1⟩ (fun hHeld=> ?_)
     refine wpAnyH_take (i:=0) (oi:= ⟨some 30,.fieldAddr 114 (.tmp 4) 1,0,"more.go:252",#[],none⟩) (v:=(.pointer (some ⟨w.heap.size,1,none⟩))) rfl (by kernel_rfl) (by kernel_rfl) (by kernel_rfl) (fun _ _ _ h=>h) (Or.inl ⟨by rfl,?_⟩) (by assumption) ?_
     ·intro wx hSw
      obtain ⟨s0,s1,s2⟩:=hSw
      go_simp
     try simp only [Act.put,qzA,qzB,qzC]
     refine wpAnyH_take (i:=2) (oi:= ⟨some 32,.move (.tmp 0),42,"more.go:252",#[],none⟩) (v:=(.pointer (some ⟨eb,0,none⟩))) rfl (by kernel_rfl) (by kernel_rfl) (by kernel_rfl) (fun _ _ _ h=>h) (Or.inl ⟨by rfl,?_⟩) (by assumption) ?_
     ·intro wx hSw
      obtain ⟨s0,s1,s2⟩:=hSw
      go_simp
     try simp only [Act.put,qzA,qzB,qzC]
     refine wpAnyH_take (i:=3) (oi:= ⟨some 33,.nilCheck (.tmp 32),0,"more.go:252",#[⟨2,.data⟩],none⟩) (v:=(.pointer (some ⟨eb,0,none⟩))) rfl (by kernel_rfl) (by kernel_rfl) (by kernel_rfl) (fun _ _ _ h=>h) (Or.inl ⟨by rfl,?_⟩) (by assumption) ?_
     ·intro wx hSw
      obtain ⟨s0,s1,s2⟩:=hSw
      go_simp
     try simp only [Act.put,qzA,qzB,qzC]
     refine wpAnyH_take (i:=4) (oi:= ⟨some 34,.fieldAddr 89 (.tmp 33) 5,0,"more.go:252",#[⟨3,.data⟩],none⟩) (v:=(.pointer (some ⟨eb,64,none⟩))) rfl (by kernel_rfl) (by kernel_rfl) (by kernel_rfl) (fun _ _ _ h=>h) (Or.inl ⟨by rfl,?_⟩) (by assumption) ?_
     ·intro wx hSw
      obtain ⟨s0,s1,s2⟩:=hSw
      go_simp
     try simp only [Act.put,qzA,qzB,qzC]
     refine wpAnyH_take (i:=5) (oi:= ⟨some 35,.load 68 (.tmp 34),68,"more.go:252",#[⟨4,.data⟩],none⟩) (v:=(.slice (some ⟨b,o,none⟩) len cc)) rfl (by kernel_rfl) (by kernel_rfl) (by kernel_rfl) (fun _ _ _ h=>h) (Or.inl ⟨by rfl,?_⟩) (by assumption) ?_
     ·intro wx hSw
      obtain ⟨s0,s1,s2⟩:=hSw
      go_simp
     try simp only [Act.put,qzA,qzB,qzC]
     refine wpAnyH_take (i:=6) (oi:= ⟨some 36,.move (.tmp 5),3,"more.go:252",#[],none⟩) (v:=(.int .i64 (j:Int))) rfl (by kernel_rfl) (by kernel_rfl) (by kernel_rfl) (fun _ _ _ h=>h) (Or.inl ⟨by rfl,?_⟩) (by assumption) ?_
     ·intro wx hSw
      obtain ⟨s0,s1,s2⟩:=hSw
      go_simp
     try simp only [Act.put,qzA,qzB,qzC]
     refine wpAnyH_take (i:=7) (oi:= ⟨some 37,.indexAddr 68 (.tmp 35) (.tmp 36),0,"more.go:252",#[⟨5,.data⟩,⟨6,.data⟩],none⟩) (v:=(.pointer (some ⟨b,o+j*2,none⟩))) rfl (by kernel_rfl) (by kernel_rfl) (by kernel_rfl) (fun _ _ _ h=>h) (Or.inl ⟨by rfl,?_⟩) (by assumption) ?_
     ·intro wx hSw
      obtain ⟨s0,s1,s2⟩:=hSw
      go_simp
     try simp only [Act.put,qzA,qzB,qzC]
     refine wpAnyH_take (i:=8) (oi:= ⟨some 38,.fieldAddr 129 (.tmp 37) 1,0,"more.go:252",#[⟨7,.data⟩],none⟩) (v:=(.pointer (some ⟨b,o+j*2+1,none⟩))) rfl (by kernel_rfl) (by kernel_rfl) (by kernel_rfl) (fun _ _ _ h=>h) (Or.inl ⟨by rfl,?_⟩) (by assumption) ?_
     ·intro wx hSw
      obtain ⟨s0,s1,s2⟩:=hSw
      go_simp
     try simp only [Act.put,qzA,qzB,qzC]
     refine wpAnyH_take (i:=9) (oi:= ⟨some 39,.load 3 (.tmp 38),3,"more.go:252",#[⟨8,.data⟩],none⟩) (v:=(.int .i64 hi)) rfl (by kernel_rfl) (by kernel_rfl) (by kernel_rfl) (fun _ _ _ h=>h) (Or.inl ⟨by rfl,?_⟩) (by assumption) ?_
     ·intro wx hSw
      obtain ⟨s0,s1,s2⟩:=hSw
      go_simp
     try simp only [Act.put,qzA,qzB,qzC]
     refine wpAnyH_take (i:=10) (oi:= ⟨some 40,.move (.tmp 0),42,"more.go:252",#[],none⟩) (v:=(.pointer (some ⟨eb,0,none⟩))) rfl (by kernel_rfl) (by kernel_rfl) (by kernel_rfl) (fun _ _ _ h=>h) (Or.inl ⟨by rfl,?_⟩) (by assumption) ?_
     ·intro wx hSw
      obtain ⟨s0,s1,s2⟩:=hSw
      go_simp
     try simp only [Act.put,qzA,qzB,qzC]
     refine wpAnyH_take (i:=11) (oi:= ⟨some 41,.nilCheck (.tmp 40),0,"more.go:252",#[⟨10,.data⟩],none⟩) (v:=(.pointer (some ⟨eb,0,none⟩))) rfl (by kernel_rfl) (by kernel_rfl) (by kernel_rfl) (fun _ _ _ h=>h) (Or.inl ⟨by rfl,?_⟩) (by assumption) ?_
     ·intro wx hSw
      obtain ⟨s0,s1,s2⟩:=hSw
      go_simp
     try simp only [Act.put,qzA,qzB,qzC]
     refine wpAnyH_take (i:=12) (oi:= ⟨some 42,.fieldAddr 89 (.tmp 41) 5,0,"more.go:252",#[⟨11,.data⟩],none⟩) (v:=(.pointer (some ⟨eb,64,none⟩))) rfl (by kernel_rfl) (by kernel_rfl) (by kernel_rfl) (fun _ _ _ h=>h) (Or.inl ⟨by rfl,?_⟩) (by assumption) ?_
     ·intro wx hSw
      obtain ⟨s0,s1,s2⟩:=hSw
      go_simp
     try simp only [Act.put,qzA,qzB,qzC]
     refine wpAnyH_take (i:=13) (oi:= ⟨some 43,.load 68 (.tmp 42),68,"more.go:252",#[⟨12,.data⟩],none⟩) (v:=(.slice (some ⟨b,o,none⟩) len cc)) rfl (by kernel_rfl) (by kernel_rfl) (by kernel_rfl) (fun _ _ _ h=>h) (Or.inl ⟨by rfl,?_⟩) (by assumption) ?_
     ·intro wx hSw
      obtain ⟨s0,s1,s2⟩:=hSw
      go_simp
     try simp only [Act.put,qzA,qzB,qzC]
     refine wpAnyH_take (i:=14) (oi:= ⟨some 44,.move (.tmp 5),3,"more.go:252",#[],none⟩) (v:=(.int .i64 (j:Int))) rfl (by kernel_rfl) (by kernel_rfl) (by kernel_rfl) (fun _ _ _ h=>h) (Or.inl ⟨by rfl,?_⟩) (by assumption) ?_
     ·intro wx hSw
      obtain ⟨s0,s1,s2⟩:=hSw
      go_simp
     try simp only [Act.put,qzA,qzB,qzC]
     refine wpAnyH_take (i:=15) (oi:= ⟨some 45,.indexAddr 68 (.tmp 43) (.tmp 44),0,"more.go:252",#[⟨13,.data⟩,⟨14,.data⟩],none⟩) (v:=(.pointer (some ⟨b,o+j*2,none⟩))) rfl (by kernel_rfl) (by kernel_rfl) (by kernel_rfl) (fun _ _ _ h=>h) (Or.inl ⟨by rfl,?_⟩) (by assumption) ?_
     ·intro wx hSw
      obtain ⟨s0,s1,s2⟩:=hSw
      go_simp
     try simp only [Act.put,qzA,qzB,qzC]
     refine wpAnyH_take (i:=16) (oi:= ⟨some 46,.fieldAddr 129 (.tmp 45) 0,0,"more.go:252",#[⟨15,.data⟩],none⟩) (v:=(.pointer (some ⟨b,o+j*2,none⟩))) rfl (by kernel_rfl) (by kernel_rfl) (by kernel_rfl) (fun _ _ _ h=>h) (Or.inl ⟨by rfl,?_⟩) (by assumption) ?_
     ·intro wx hSw
      obtain ⟨s0,s1,s2⟩:=hSw
      go_simp
     try simp only [Act.put,qzA,qzB,qzC]
     refine wpAnyH_take (i:=17) (oi:= ⟨some 47,.load 3 (.tmp 46),3,"more.go:252",#[⟨16,.data⟩],none⟩) (v:=(.int .i64 lo)) rfl (by kernel_rfl) (by kernel_rfl) (by kernel_rfl) (fun _ _ _ h=>h) (Or.inl ⟨by rfl,?_⟩) (by assumption) ?_
     ·intro wx hSw
      obtain ⟨s0,s1,s2⟩:=hSw
      go_simp
     try simp only [Act.put,qzA,qzB,qzC]
     refine wpAnyH_ready (rs:= [1,18]) (by kernel_rfl) (by simp) ?_
     refine AllReadyH.cons (o:= ⟨some 31,.load 35 (.tmp 30),35,"more.go:252",#[⟨0,.data⟩],none⟩) rfl (fun K hK=> ?_) (AllReadyH.cons (o:= ⟨some 48,.buildSlice 35 2 #[(0,.tmp 39),(1,.tmp 47)],35,"more.go:252",#[⟨9,.data⟩,⟨17,.data⟩],none⟩) rfl (fun K hK=> ?_) AllReadyH.nil)
     ·go_simp
      refine hK.out _ _ hHeld (fun hHeld=> ?_)
      clear hK K
      try simp only [Act.put,qzA,qzB,qzC]
      refine wpAnyH_ready (rs:= [18]) (by kernel_rfl) (by simp) ?_
      refine AllReadyH.cons (o:= ⟨some 48,.buildSlice 35 2 #[(0,.tmp 39),(1,.tmp 47)],35,"more.go:252",#[⟨9,.data⟩,⟨17,.data⟩],none⟩) rfl (fun K hK=> ?_) AllReadyH.nil
      go_simp
      refine hK.out _ _ ⟨(World.cell?_alloc_lt _ _ _ hebr).trans hHeld.1,(World.cell?_alloc_lt _ _ _ hbr).trans hHeld.2.1,(World.cell?_alloc_lt _ _ _ hbr).trans hHeld.2.2⟩ (fun hHeld=> ?_)
      clear hK K
      try simp only [Act.put,qzA,qzB,qzC]
      refine wpAnyH_ready (rs:= [19]) (by kernel_rfl) (by simp) ?_
      refine AllReadyH.cons (o:= ⟨some 49,.call {callee:=.builtin .append,args:= #[.tmp 31,.tmp 48],argTypes:= #[35,35]},35,"more.go:252",#[⟨1,.data⟩,⟨18,.data⟩],none⟩) rfl (fun K hK=> ?_) AllReadyH.nil
      refine zam rfl (.tmp 31) (.tmp 48) 35 rfl (w.heap.size+1) 3 i0 _ 1 8 Tryz.underlying35 HI.out.1 HI.out.2.1 HI.out.2.2.1 HI.out.2.2.2 rfl (by decide) (.slice av (unr (e.cm.take j)).length cv) (unr (e.cm.take j)).length (ivs (unr (e.cm.take j))) (by simp [Act.eval,Act.put]) (HO2.out.alloc _) ⟨wr.drew.heap.size,0,none⟩ 2 2 (ivs [hi,lo]) (by simp [Act.eval,Act.put]) rfl CS.out (by intro u hu;simp [ivs] at hu;rcases hu with rfl | rfl<;>rfl) (by have:=hul2.out;unfold maxLen;omega) (by have:=hul2.out;omega) (by simp;omega) ?_
      intro v' w4 hown' hgrow
      obtain ⟨a4,c4,hv4⟩:=zcw hown'
      subst hv4
      have bF4:=FBox.kept (bF.alloc' (.cells #[.int .i64 hi,.int .i64 lo] 3)) hgrow hnv
      have k1:=bF4.c1
      have k2:=bF4.fz 1
      refine hK.out _ _ ⟨zau hHeld.1 hgrow heA hn2,zau hHeld.2.1 hgrow hbA hn1,zau hHeld.2.2 hgrow hbA hn1⟩ (fun hHeld=> ?_)
      clear hK K
      try simp only [Act.put,qzA,qzB,qzC]
      refine wpAnyH_take (i:=20) (oi:= ⟨some 50,.fieldAddr 114 (.tmp 4) 1,0,"more.go:252",#[⟨0,.phase⟩,⟨1,.phase⟩,⟨2,.phase⟩,⟨3,.phase⟩,⟨4,.phase⟩,⟨5,.phase⟩,⟨6,.phase⟩,⟨7,.phase⟩,⟨8,.phase⟩,⟨9,.phase⟩,⟨10,.phase⟩,⟨11,.phase⟩,⟨12,.phase⟩,⟨13,.phase⟩,⟨14,.phase⟩,⟨15,.phase⟩,⟨16,.phase⟩,⟨17,.phase⟩,⟨18,.phase⟩,⟨19,.phase⟩],none⟩) (v:=(.pointer (some ⟨w.heap.size,1,none⟩))) rfl (by kernel_rfl) (by kernel_rfl) (by kernel_rfl) (fun _ _ _ h=>h) (Or.inl ⟨by rfl,?_⟩) (by assumption) ?_
      ·intro wx hSw
       obtain ⟨s0,s1,s2⟩:=hSw
       go_simp
      try simp only [Act.put,qzA,qzB,qzC]
      refine wpAnyH_ready (rs:= [21]) (by kernel_rfl) (by simp) ?_
      refine AllReadyH.cons (o:= ⟨none,.store 35 (.tmp 50) (.tmp 49),0,"more.go:252",#[⟨20,.data⟩,⟨19,.data⟩,⟨19,.chain⟩,⟨0,.phase⟩,⟨1,.phase⟩,⟨2,.phase⟩,⟨3,.phase⟩,⟨4,.phase⟩,⟨5,.phase⟩,⟨6,.phase⟩,⟨7,.phase⟩,⟨8,.phase⟩,⟨9,.phase⟩,⟨10,.phase⟩,⟨11,.phase⟩,⟨12,.phase⟩,⟨13,.phase⟩,⟨14,.phase⟩,⟨15,.phase⟩,⟨16,.phase⟩,⟨17,.phase⟩,⟨18,.phase⟩,⟨19,.phase⟩],none⟩) rfl (fun K hK=> ?_) AllReadyH.nil
      go_simp
      refine hK.out _ _ ⟨Sx.zda hHeld.1 hb2,Sx.zda hHeld.2.1 hb1,Sx.zda hHeld.2.2 hb1⟩ (fun hHeld=> ?_)
      clear hK K
      try simp only [Act.put,qzA,qzB,qzC]
      refine wpAnyH_done (by kernel_rfl) (NoPanic.normal ?_) _
      clear hHeld
      have bF5:=bF4.set1 (.slice a4 ((unr (e.cm.take j)).length+2) c4)
      have ho5:=zbd (B:=w.heap.size) (j:=1) (u:= .slice a4 ((unr (e.cm.take j)).length+2) c4) (zr2 hown') (by omega)
      have hB5:Below w.heap.size w (w4.setCell ⟨w.heap.size,1,none⟩ (.slice a4 ((unr (e.cm.take j)).length+2) c4)):=(((hB.drew.alloc (by simp;omega) _).grown hgrow (by simp;omega) (fun q e=>by have:=(hown.lt q e).1;omega))).setCell (by simp) _
      clear hgrow hown' bF4 k1 k2 e0 e1 f1a f1b f1c f1d d0 d1 bF hown hB q64 q64d
      generalize w4.setCell ⟨w.heap.size,1,none⟩ (.slice a4 ((unr (e.cm.take j)).length+2) c4)=W5 at *
      go_wp2_with fail
      go_roundg (len-(j+1))
      case measure=>have:=HK.out;omega
      case rel=>exact ⟨j+1,_,by have:=HK.out;omega,by go_num,bF5,by rw [HNx.out];exact ho5,hB5⟩
     ·go_simp
      refine hK.out _ _ ⟨(World.cell?_alloc_lt _ _ _ hebr).trans hHeld.1,(World.cell?_alloc_lt _ _ _ hbr).trans hHeld.2.1,(World.cell?_alloc_lt _ _ _ hbr).trans hHeld.2.2⟩ (fun hHeld=> ?_)
      clear hK K
      try simp only [Act.put,qzA,qzB,qzC]
      refine wpAnyH_ready (rs:= [1]) (by kernel_rfl) (by simp) ?_
      refine AllReadyH.cons (o:= ⟨some 31,.load 35 (.tmp 30),35,"more.go:252",#[⟨0,.data⟩],none⟩) rfl (fun K hK=> ?_) AllReadyH.nil
      go_simp
      refine hK.out _ _ hHeld (fun hHeld=> ?_)
      clear hK K
      try simp only [Act.put,qzA,qzB,qzC]
      refine wpAnyH_ready (rs:= [19]) (by kernel_rfl) (by simp) ?_
      refine AllReadyH.cons (o:= ⟨some 49,.call {callee:=.builtin .append,args:= #[.tmp 31,.tmp 48],argTypes:= #[35,35]},35,"more.go:252",#[⟨1,.data⟩,⟨18,.data⟩],none⟩) rfl (fun K hK=> ?_) AllReadyH.nil
      refine zam rfl (.tmp 31) (.tmp 48) 35 rfl (w.heap.size+1) 3 i0 _ 1 8 Tryz.underlying35 HI.out.1 HI.out.2.1 HI.out.2.2.1 HI.out.2.2.2 rfl (by decide) (.slice av (unr (e.cm.take j)).length cv) (unr (e.cm.take j)).length (ivs (unr (e.cm.take j))) (by simp [Act.eval,Act.put]) (HO2.out.alloc _) ⟨wr.drew.heap.size,0,none⟩ 2 2 (ivs [hi,lo]) (by simp [Act.eval,Act.put]) rfl CS.out (by intro u hu;simp [ivs] at hu;rcases hu with rfl | rfl<;>rfl) (by have:=hul2.out;unfold maxLen;omega) (by have:=hul2.out;omega) (by simp;omega) ?_
      intro v' w4 hown' hgrow
      obtain ⟨a4,c4,hv4⟩:=zcw hown'
      subst hv4
      have bF4:=FBox.kept (bF.alloc' (.cells #[.int .i64 hi,.int .i64 lo] 3)) hgrow hnv
      have k1:=bF4.c1
      have k2:=bF4.fz 1
      refine hK.out _ _ ⟨zau hHeld.1 hgrow heA hn2,zau hHeld.2.1 hgrow hbA hn1,zau hHeld.2.2 hgrow hbA hn1⟩ (fun hHeld=> ?_)
      clear hK K
      try simp only [Act.put,qzA,qzB,qzC]
      refine wpAnyH_take (i:=20) (oi:= ⟨some 50,.fieldAddr 114 (.tmp 4) 1,0,"more.go:252",#[⟨0,.phase⟩,⟨1,.phase⟩,⟨2,.phase⟩,⟨3,.phase⟩,⟨4,.phase⟩,⟨5,.phase⟩,⟨6,.phase⟩,⟨7,.phase⟩,⟨8,.phase⟩,⟨9,.phase⟩,⟨10,.phase⟩,⟨11,.phase⟩,⟨12,.phase⟩,⟨13,.phase⟩,⟨14,.phase⟩,⟨15,.phase⟩,⟨16,.phase⟩,⟨17,.phase⟩,⟨18,.phase⟩,⟨19,.phase⟩],none⟩) (v:=(.pointer (some ⟨w.heap.size,1,none⟩))) rfl (by kernel_rfl) (by kernel_rfl) (by kernel_rfl) (fun _ _ _ h=>h) (Or.inl ⟨by rfl,?_⟩) (by assumption) ?_
      ·intro wx hSw
       obtain ⟨s0,s1,s2⟩:=hSw
       go_simp
      try simp only [Act.put,qzA,qzB,qzC]
      refine wpAnyH_ready (rs:= [21]) (by kernel_rfl) (by simp) ?_
      refine AllReadyH.cons (o:= ⟨none,.store 35 (.tmp 50) (.tmp 49),0,"more.go:252",#[⟨20,.data⟩,⟨19,.data⟩,⟨19,.chain⟩,⟨0,.phase⟩,⟨1,.phase⟩,⟨2,.phase⟩,⟨3,.phase⟩,⟨4,.phase⟩,⟨5,.phase⟩,⟨6,.phase⟩,⟨7,.phase⟩,⟨8,.phase⟩,⟨9,.phase⟩,⟨10,.phase⟩,⟨11,.phase⟩,⟨12,.phase⟩,⟨13,.phase⟩,⟨14,.phase⟩,⟨15,.phase⟩,⟨16,.phase⟩,⟨17,.phase⟩,⟨18,.phase⟩,⟨19,.phase⟩],none⟩) rfl (fun K hK=> ?_) AllReadyH.nil
      go_simp
      refine hK.out _ _ ⟨Sx.zda hHeld.1 hb2,Sx.zda hHeld.2.1 hb1,Sx.zda hHeld.2.2 hb1⟩ (fun hHeld=> ?_)
      clear hK K
      try simp only [Act.put,qzA,qzB,qzC]
      refine wpAnyH_done (by kernel_rfl) (NoPanic.normal ?_) _
      clear hHeld
      have bF5:=bF4.set1 (.slice a4 ((unr (e.cm.take j)).length+2) c4)
      have ho5:=zbd (B:=w.heap.size) (j:=1) (u:= .slice a4 ((unr (e.cm.take j)).length+2) c4) (zr2 hown') (by omega)
      have hB5:Below w.heap.size w (w4.setCell ⟨w.heap.size,1,none⟩ (.slice a4 ((unr (e.cm.take j)).length+2) c4)):=(((hB.drew.alloc (by simp;omega) _).grown hgrow (by simp;omega) (fun q e=>by have:=(hown.lt q e).1;omega))).setCell (by simp) _
      clear hgrow hown' bF4 k1 k2 e0 e1 f1a f1b f1c f1d d0 d1 bF hown hB q64 q64d
      generalize w4.setCell ⟨w.heap.size,1,none⟩ (.slice a4 ((unr (e.cm.take j)).length+2) c4)=W5 at *
      go_wp2_with fail
      go_roundg (len-(j+1))
      case measure=>have:=HK.out;omega
      case rel=>exact ⟨j+1,_,by have:=HK.out;omega,by go_num,bF5,by rw [HNx.out];exact ho5,hB5⟩
    ·have hjl:j=len:=by have:=HK.out;omega
     have hown2:OwnI wr (w.heap.size+1) (.slice av (unr e.cm).length cv) (unr e.cm):=by
      have e1:e.cm.take j=e.cm:=by rw [hjl,←HLen.out,List.take_length]
      rw [e1] at hown
      exact hown
     have bF2:FBox wr w.heap.size 2 (.slice av (unr e.cm).length cv) {data:= #[]}:=by
      have e1:e.cm.take j=e.cm:=by rw [hjl,←HLen.out,List.take_length]
      rw [e1] at bF
      exact bF
     have hu24:(unr e.cm).length≤24:=by rw [zb6];have:=HLen.out;omega
     have t0:=bF2.c0
     have t1:=bF2.c1
     have t2:=bF2.c2
     have ho2:OwnI (wr.alloc (.cells #[.int .i64 2,.slice av (unr e.cm).length cv,.string {data:= #[]}] 114)) w.heap.size (.slice av (unr e.cm).length cv) (unr e.cm):=za8 (hown2.alloc _) (by omega)
     have hcn:=za0 wr 2 (.slice av (unr e.cm).length cv) {data:= #[]} 114
     have hsz1:=hB.size
     clear hown hown2 bF bF2 f1 hjl
     generalize unr e.cm=uc at *
     go_wp2_with (at_builtin;refine wpList_append_own_at _ rfl (.tmp 51) (.tmp 53) 104 rfl w.heap.size 114 fi0 _ 3 48 Tryz.underlying104 hf0 hy0 hy1 hy2 rfl (by decide) _ _ (fcs [] []) rfl (World.ownsRow_nil _ _ _ _) ⟨wr.heap.size,0,none⟩ 1 1 [Value.int .i64 2,.slice av uc.length cv,.string {data:= #[]}] rfl rfl hcn (zcl 2 av uc.length cv {data:= #[]}) (by unfold maxLen;simp) (by simp) (by simp;omega) ?_;intro vx wx hox hgx hqx hlx;clear hqx;obtain ⟨aox,cx,rfl⟩:=za3 hox;have HX:Hid (FOwn wx w.heap.size (.slice aox 1 cx) [.slice av uc.length cv] [(2,uc,nilB)]):=(FOwn.nil (wr.alloc (.cells #[.int .i64 2,.slice av uc.length cv,.string {data:= #[]}] 114)) w.heap.size).app (f:=(2,uc,nilB)) ho2 HGA.out hox hgx;have HB:Hid (Below w.heap.size w wx):=(hB.alloc hB.size _).grown hgx (by simp;omega) (fun k e=>by cases e);clear ho2 hcn hox hgx hlx)
     go_meet
     exact ⟨aox,cx,[.slice av uc.length cv],by rw [HA.out];rfl,by show FOwn _ _ _ _ _;rw [HA.out];exact HX.out,HB.out⟩
 case rest=>
 obtain ⟨aol,cl,us0,rfl,HX,HB⟩:=hcut
 have q66:=(HB.out.cell (p:=⟨eb,66,none⟩) hlt).trans c66
 have qc1:=(HB.out.cell (p:=⟨cb,1,none⟩) hcb).trans cc1
 have hebr:eb<wc.heap.size:=Nat.lt_of_lt_of_le hlt HB.out.size
 have hcbr:cb<wc.heap.size:=Nat.lt_of_lt_of_le hcb HB.out.size
 have hgc:fF (4,[e.c.lim],nilB)=0:=zgc HLM.out.1 HLM.out.2
 have HGC:Hid (fF (4,[e.c.lim],nilB)=0):=hgc
 have HFR:Hid (ackL e++ [(4,[e.c.lim],nilB)]++(pieces e).map pfr=frs e):=by
  show _=_
  unfold ackL frs
  split<;>simp
 have hl1:(ackL e).length≤1:=by unfold ackL;split<;>simp
 clear hgc
 generalize e.c.lim=z at qc1 HGC HFR
 generalize ackL e=L0 at *
 have hsz:=HB.out.size
 have hbx:Below wc.heap.size wc ((wc.alloc (.cells #[.int .i64 z] 3)).alloc (.cells #[.int .i64 4,.slice (some ⟨wc.heap.size,0,none⟩) 1 1,.string {data:= #[]}] 114)):=((Below.refl _ _).alloc (Nat.le_refl _) _).alloc (by simp) _
 have HBX:Hid (Below wc.heap.size wc ((wc.alloc (.cells #[.int .i64 z] 3)).alloc (.cells #[.int .i64 4,.slice (some ⟨wc.heap.size,0,none⟩) 1 1,.string {data:= #[]}] 114))):=hbx
 clear hbx
 go_upto_if 77 with (at_builtin;refine wpList_append_own_at _ rfl (.tmp 55) (.tmp 65) 104 rfl w.heap.size 114 fi0 _ 3 48 Tryz.underlying104 hf0 hy0 hy1 hy2 rfl (by decide) _ _ (fcs us0 L0) rfl ((HX.out.own.alloc _).alloc _) ⟨wc.heap.size+1,0,none⟩ 1 1 [Value.int .i64 4,.slice (some ⟨wc.heap.size,0,none⟩) 1 1,.string {data:= #[]}] rfl rfl (by have:=za0 (wc.alloc (.cells #[.int .i64 z] 3)) 4 (.slice (some ⟨wc.heap.size,0,none⟩) 1 1) {data:= #[]} 114;rw [World.size_alloc] at this;exact this) (zcl 4 _ 1 1 {data:= #[]}) (by unfold maxLen;omega) (by omega) (by simp;omega) ?_;intro v5 w5 ho5 hg5 hq5 hl5;clear hq5;obtain ⟨ao5,c5,rfl⟩:=za3 ho5;have hB5:Below w.heap.size w w5:=(HB.out.trans (HBX.out.mono HB.out.size)).grown hg5 (by simp;omega) (fun k e=>(HX.out.own.lt k e).1);have q0:=(hB5.cell (p:=⟨eb,0,none⟩) hlt).trans c00;have q61:=(hB5.cell (p:=⟨eb,61,none⟩) hlt).trans c61;have heb5:eb<w5.heap.size:=Nat.lt_of_lt_of_le hlt hB5.size)
 have ho3:OwnI ((wc.alloc (.cells #[.int .i64 z] 3)).alloc (.cells #[.int .i64 4,.slice (some ⟨wc.heap.size,0,none⟩) 1 1,.string {data:= #[]}] 114)) w.heap.size (.slice (some ⟨wc.heap.size,0,none⟩) 1 1) [z]:=(World.ownsRow_lit (base:=w.heap.size) (e:=3) (size:=1) wc #[.int .i64 z] 1 HB.out.size (by unfold maxLen;omega) rfl).alloc _
 have HX5:Hid (FOwn w5 w.heap.size (.slice ao5 (L0.length+1) c5) (us0++ [.slice (some ⟨wc.heap.size,0,none⟩) 1 1]) (L0++ [(4,[z],nilB)])):=(HX.out.below HBX.out).app (f:=(4,[z],nilB)) ho3 HGC.out ho5 hg5
 have HB5:Hid (Below w.heap.size w w5):=hB5
 clear ho3 ho5 hg5 hl5 HX HGC HB q66 qc1 hebr hcbr hsz HBX hB5
 generalize (us0++ [Value.slice (some ⟨wc.heap.size,0,none⟩) 1 1])=us1 at HX5
 go_cut [7] (fun s7 wx=>s7= .int .i64 ((en e:Nat):Int)∧w5=wx)
 case first=>
  have l0:=HO.out.inv.l0
  by_cases g:e.l<(e.d.size:Int)
  ·go_wp2_with fail
   go_meet
   exact ⟨by rw [show ((en e:Nat):Int)=e.l by unfold en;omega],rfl⟩
  ·go_wp2_with fail
   go_meet
   exact ⟨by rw [show ((en e:Nat):Int)=e.d.size by unfold en;omega],rfl⟩
 case rest=>
 obtain ⟨rfl,rfl⟩:=hcut
 clear q0 q61
 obtain ⟨pi0,hp0,hx0,hx1,hx2⟩:=info_parts zH1
 have HE60:Hid (en e≤60∧e.t≤en e):=⟨HO.out.inv.en60,HO.out.inv.t1⟩
 have HED:Hid (en e≤e.d.size∧e.d.size≤60):=⟨zge e,HO.out.inv.d60⟩
 go_upto_region 15 with fail
 go_wp2_with fail
 go_loopg [6,8,9,10] (en e+1) (fun gk s6 s8 s9 s10 wr=>∃(k:Nat) (ao:Option Addr) (c:Nat) (l:List Pc) (fr:Int),gk+k=en e+1∧s9= .int .i64 (k:Int)∧s8= .int .i64 fr∧s6= .slice ao l.length c∧wr.ownsRow w5.heap.size 131 2 (.slice ao l.length c) l.length (zbi l)∧Below w5.heap.size w5 wr∧Hid (PS e k l fr))
 case atStart=>exact ⟨0,none,0,[],-1,by omega,rfl,rfl,rfl,World.ownsRow_nil _ _ _ _,Below.refl _ _,.inl ⟨Nat.zero_le _,rfl,rfl⟩⟩
 case round=>
  obtain ⟨k,ao,c,l,fr,hk1,rfl,rfl,rfl,ho,hb,HPS⟩:=hrel
  have HK:Hid (gk+k=en e+1):=hk1
  clear hk1
  by_cases g:(k:Int)≤((en e:Nat):Int)
  ·have h60:=HE60.out
   rcases HPS.out with ⟨p1,rfl,rfl⟩ | ⟨p1,p2,f,rfl,p3,p4,p5,p6⟩ | ⟨p1,_,_⟩
   ·by_cases gt:k<e.t
    ·have g2:(k:Int)<((en e:Nat):Int):=by omega
     have qt:=((HB5.out.trans (hb.mono HB5.out.size)).cell (p:=⟨eb,1+k,none⟩) hlt).trans (CT.out k (by omega))
     rw [decide_eq_true gt] at qt
     go_wp2_with fail
     go_roundg (en e+1-(k+1))
     case measure=>have:=HK.out;omega
     case rel=>exact ⟨k+1,ao,c,[],(-1),by have:=HK.out;omega,by go_num,by first | rfl | go_num,by first | rfl | go_num,ho,hb,.inl ⟨by omega,rfl,rfl⟩⟩
    ·have hkt:k=e.t:=by omega
     by_cases g2:(k:Int)<((en e:Nat):Int)
     ·have qt:=((HB5.out.trans (hb.mono HB5.out.size)).cell (p:=⟨eb,1+k,none⟩) hlt).trans (CT.out k (by omega))
      rw [decide_eq_false gt] at qt
      have HKT:Hid (k=e.t):=hkt
      clear hkt gt p1
      go_wp2_with fail
      go_roundg (en e+1-(k+1))
      case measure=>have:=HK.out;omega
      case rel=>exact ⟨k+1,ao,c,[],(k:Int),by have:=HK.out;omega,by go_num,by first | rfl | go_num,by first | rfl | go_num,ho,hb,.inr (.inl ⟨by have:=HKT.out;omega,by omega,k,rfl,by have:=HKT.out;simp;omega,by omega,by omega,by rw [HKT.out];rfl⟩)⟩
     ·have HKT:Hid (k=e.t∧k=en e):=⟨hkt,by omega⟩
      clear hkt gt p1
      go_wp2_with fail
      go_roundg (en e+1-(k+1))
      case measure=>have:=HK.out;omega
      case rel=>exact ⟨k+1,ao,c,[],(-1),by have:=HK.out;omega,by go_num,by first | rfl | go_num,by first | rfl | go_num,ho,hb,.inr (.inr ⟨by have:=HKT.out;omega,rfl,by rw [zk5 (by have:=HKT.out;omega)]⟩)⟩
   ·have HP3:Hid (f=e.t+20*l.length∧e.t≤f):=⟨p3,by omega⟩
    have hl2:l.length≤2:=by omega
    have htf:e.t≤f:=by omega
    clear p3
    have gf0:¬(f:Int)<0:=by omega
    have gf1:(0:Int)≤(f:Int):=by omega
    by_cases g2:(k:Int)<((en e:Nat):Int)
    ·have qt:=((HB5.out.trans (hb.mono HB5.out.size)).cell (p:=⟨eb,1+k,none⟩) hlt).trans (CT.out k (by omega))
     rw [decide_eq_false (show¬k<e.t by omega)] at qt
     by_cases g20:(k:Int)-(f:Int)=20
     ·have HKF:Hid (k=f+20):=by show _=_;omega
      have HP6:Hid (l++pcs e.d (en e) (3-l.length) f=pieces e):=p6
      clear p6
      have hb2:∀W,(Instr.slice 9 (.string e.d) (some (.int .i64 (f:Int))) (some (.int .i64 (k:Int))) none).run Tryz.prog W= .ok (.string (e.d.extract f k)) W:=zlw e.d f k (by omega) (by have:=HED.out;omega) (by have:=HED.out;omega)
      have q0:=(HB5.out.trans (hb.mono HB5.out.size)).cell (p:=⟨eb,0,none⟩) hlt |>.trans c00
      have cs:=fun j u hu=>zi5 wr f (e.d.extract f k) j u hu
      have CS:Hid (∀(j:Nat) (u:Value),(zbi [(f,e.d.extract f k)])[j]? =some u→(wr.alloc (.cells #[.int .i64 (f:Int),.string (e.d.extract f k)] 131)).cell? ((⟨wr.heap.size,0,none⟩:Addr).add j)=some u):=cs
      have hsz:=hb.size
      have HOW:Hid (wr.ownsRow w5.heap.size 131 2 (.slice ao l.length c) l.length (zbi l)):=ho
      clear cs
      generalize hpc:e.d.extract f k=pc at hb2 CS
      have HPC:Hid (e.d.extract f k=pc):=hpc
      clear hpc
      go_wp2_with (at_builtin;refine wpList_append_own_at _ rfl (.tmp 114) (.tmp 124) 101 rfl w5.heap.size 131 pi0 _ 2 24 Tryz.underlying101 hp0 hx0 hx1 hx2 rfl (by decide) _ _ (zbi l) rfl (HOW.out.alloc _) ⟨wr.heap.size,0,none⟩ 1 1 (zbi [(f,pc)]) rfl rfl CS.out (fun u hu=>zi4 u hu) (by unfold maxLen;omega) (by omega) (by simp;omega) ?_;intro v3 w12 ho12 hg12 hq12 hl12;clear hq12;obtain ⟨ao3,cap3,rfl⟩:=za3 ho12;have hb12:Below w5.heap.size w5 w12:=(hb.alloc hb.size _).grown hg12 (by simp;omega) (fun q e=>(HOW.out.lt q e).1))
      have HO3:Hid (w12.ownsRow w5.heap.size 131 2 (.slice ao3 (l++ [(f,pc)]).length cap3) (l++ [(f,pc)]).length (zbi (l++ [(f,pc)]))):=by
       show World.ownsRow _ _ _ _ _ _ _
       rw [List.length_append,zfm]
       exact ho12
      go_roundg (en e+1-(k+1))
      case measure=>have:=HK.out;omega
      case rel=>exact ⟨k+1,ao3,cap3,(l++ [(f,pc)]),(k:Int),by have:=HK.out;omega,by go_num,by first | rfl | go_num,by simp,HO3.out,hb12,.inr (.inl ⟨by omega,by omega,k,rfl,by simp;have:=HKF.out;have:=HP3.out;omega,by omega,by omega,by rw [←HP6.out,←HPC.out];exact zB8 (by have:=HKF.out;omega) (by omega) HKF.out hl2⟩)⟩
     ·have HP6:Hid (l++pcs e.d (en e) (3-l.length) f=pieces e):=p6
      clear p6
      go_wp2_with fail
      go_roundg (en e+1-(k+1))
      case measure=>have:=HK.out;omega
      case rel=>exact ⟨k+1,ao,c,l,(f:Int),by have:=HK.out;omega,by go_num,by first | rfl | go_num,by first | rfl | go_num,ho,hb,.inr (.inl ⟨by omega,by omega,f,rfl,HP3.out.1,by omega,by omega,HP6.out⟩)⟩
    ·have hke:k=en e:=by omega
     have HKE:Hid (k=en e):=hke
     have HP6:Hid (l++pcs e.d (en e) (3-l.length) f=pieces e):=p6
     clear p6 hke
     have hb2:∀W,(Instr.slice 9 (.string e.d) (some (.int .i64 (f:Int))) (some (.int .i64 (k:Int))) none).run Tryz.prog W= .ok (.string (e.d.extract f k)) W:=zlw e.d f k (by omega) (by have:=HED.out;omega) (by have:=HED.out;omega)
     have q0:=(HB5.out.trans (hb.mono HB5.out.size)).cell (p:=⟨eb,0,none⟩) hlt |>.trans c00
     have cs:=fun j u hu=>zi5 wr f (e.d.extract f k) j u hu
     have CS:Hid (∀(j:Nat) (u:Value),(zbi [(f,e.d.extract f k)])[j]? =some u→(wr.alloc (.cells #[.int .i64 (f:Int),.string (e.d.extract f k)] 131)).cell? ((⟨wr.heap.size,0,none⟩:Addr).add j)=some u):=cs
     have hsz:=hb.size
     have HOW:Hid (wr.ownsRow w5.heap.size 131 2 (.slice ao l.length c) l.length (zbi l)):=ho
     clear cs
     generalize hpc:e.d.extract f k=pc at hb2 CS
     have HPC:Hid (e.d.extract f k=pc):=hpc
     clear hpc
     go_wp2_with (at_builtin;refine wpList_append_own_at _ rfl (.tmp 114) (.tmp 124) 101 rfl w5.heap.size 131 pi0 _ 2 24 Tryz.underlying101 hp0 hx0 hx1 hx2 rfl (by decide) _ _ (zbi l) rfl (HOW.out.alloc _) ⟨wr.heap.size,0,none⟩ 1 1 (zbi [(f,pc)]) rfl rfl CS.out (fun u hu=>zi4 u hu) (by unfold maxLen;omega) (by omega) (by simp;omega) ?_;intro v3 w12 ho12 hg12 hq12 hl12;clear hq12;obtain ⟨ao3,cap3,rfl⟩:=za3 ho12;have hb12:Below w5.heap.size w5 w12:=(hb.alloc hb.size _).grown hg12 (by simp;omega) (fun q e=>(HOW.out.lt q e).1))
     have HO3:Hid (w12.ownsRow w5.heap.size 131 2 (.slice ao3 (l++ [(f,pc)]).length cap3) (l++ [(f,pc)]).length (zbi (l++ [(f,pc)]))):=by
      show World.ownsRow _ _ _ _ _ _ _
      rw [List.length_append,zfm]
      exact ho12
     go_roundg (en e+1-(k+1))
     case measure=>have:=HK.out;omega
     case rel=>exact ⟨k+1,ao3,cap3,(l++ [(f,pc)]),(-1),by have:=HK.out;omega,by go_num,by first | rfl | go_num,by simp,HO3.out,hb12,.inr (.inr ⟨by have:=HKE.out;omega,rfl,by rw [←HP6.out,←HPC.out];exact zA4 (by have:=HKE.out;omega) (by omega) HKE.out hl2⟩)⟩
   ·omega
  ·have hke:k=en e+1:=by have:=HK.out;omega
   have HL:Hid (l=pieces e):=by
    rcases HPS.out with ⟨p1,_,_⟩ | ⟨_,p2,_⟩ | ⟨_,_,h3⟩
    ·have:=HE60.out;omega
    ·omega
    ·exact h3
   have hl3:l.length≤3:=by rw [HL.out];exact zcf _ _ _ _
   have HPE:Hid (∀p∈l,p.1≤60∧p.2.size≤20):=by
    show∀p∈l,_
    intro p hp
    rw [HL.out] at hp
    have:=zfn e.d (en e) (zge e) 3 e.t p hp
    have:=HE60.out
    omega
   rw [←HL.out] at HFR
   have HX6:Hid (FOwn wr w.heap.size (.slice ao5 (L0.length+1) c5) us1 (L0++ [(4,[z],nilB)])):=HX5.out.below hb
   have HB6:Hid (Below w.heap.size w wr):=HB5.out.trans (hb.mono HB5.out.size)
   have HP6:Hid (wr.ownsRow w.heap.size 131 2 (.slice ao l.length c) l.length (zbi l)):=za8 ho HB5.out.size
   clear HX5 HPS hb ho hke HK
   generalize hM:l.length=m at hl3 HP6 ⊢
   have HM2:Hid (l.length=m):=hM
   have HL1:Hid ((L0++ [(4,[z],nilB)]).length=L0.length+1):=by show _=_;simp
   clear hM
   generalize hq:L0++ [(4,[z],nilB)]=L1 at HX6 HFR HL1
   clear hq
   generalize hn1:L0.length+1=n1 at HX6 HL1 ⊢
   have hn2:n1≤2:=by omega
   clear hn1
   go_wp2_with fail
   generalize hwr:wr=wp at HX6 HB6 HP6 ⊢
   clear hwr
   go_loopg [3,11] m (fun gk s3 s11 wr=>∃(k:Nat) (a3:Option Addr) (c3:Nat) (us2:List Value),gk+k=m∧s11= .int .i64 (k:Int)∧s3= .slice a3 (n1+k) c3∧Hid (FOwn wr w.heap.size (.slice a3 (n1+k) c3) us2 (L1++(l.take k).map pfr))∧Hid (Below w.heap.size w wr)∧Hid (wr.ownsRow w.heap.size 131 2 (.slice ao m c) m (zbi l)))
   case atStart=>exact ⟨0,ao5,c5,us1,by omega,rfl,rfl,(by show FOwn _ _ _ _ _;rw [List.take_zero,List.map_nil,List.append_nil];exact HX6.out),HB6.out,HP6.out⟩
   case round=>
    obtain ⟨k,a3,c3,us2,hk1,rfl,rfl,HX,HB,HP⟩:=hrel
    have HK:Hid (gk+k=m):=hk1
    clear hk1
    by_cases g:(k:Int)<(m:Int)
    ·have hkl:k<l.length:=by have:=HM2.out;omega
     have hPP:wr.ownsRow w.heap.size 131 2 (.slice ao m c) m (zbi l):=HP.out
     obtain ⟨gb,capv,hv1,hgB,hgL⟩:=hPP.form (by omega)
     injection hv1 with e1 e2 e3
     subst e1 e3
     have hvv:wr.ownsRow w.heap.size 131 2 (.slice (some ⟨gb,0,none⟩) m c) m (zbi l):=HP.out
     have y0:=hvv.cellAt (k*2) (by omega)
     have y1:=hvv.cellAt (k*2+1) (by omega)
     rw [(zc5 l k hkl).1] at y0
     rw [(zc5 l k hkl).2] at y1
     have HN:Hid (L1++(l.take (k+1)).map pfr=(L1++(l.take k).map pfr)++ [pfr l[k]]):=by
      show _=_
      rw [List.take_succ_eq_append_getElem hkl,List.map_append,List.append_assoc]
      rfl
     have hpe:=HPE.out l[k] (List.getElem_mem hkl)
     have HGP:Hid (fF (pfr l[k])=0):=zhz hpe.1 hpe.2
     have HLK:Hid ((L1++(l.take k).map pfr).length=n1+k):=by
      show _=_
      rw [List.length_append,List.length_map,List.length_take,HL1.out]
      omega
     clear hpe hvv hPP
     generalize l[k]=pp at *
     obtain ⟨p,sx⟩:=pp
     simp only at y0 y1
     clear hkl
     generalize L1++(l.take k).map pfr=L at *
     have hox0:=HX.out.own
     rw [HLK.out] at hox0
     have hox:wr.drew.ownsRow w.heap.size 114 3 (.slice a3 (n1+k) c3) (n1+k) (fcs us2 L):=hox0
     have HOX:Hid (wr.drew.ownsRow w.heap.size 114 3 (.slice a3 (n1+k) c3) (n1+k) (fcs us2 L)):=hox
     have hsz:=HB.out.size
     have z0:wr.drew.cell? ⟨gb,k*2,none⟩=some (.int .i64 (p:Int)):=y0
     have z1:wr.drew.cell? ⟨gb,k*2+1,none⟩=some (.string sx):=y1
     have e0:=(World.cell?_alloc_lt wr.drew (.cells #[.int .i64 (p:Int)] 3) ⟨gb,k*2,none⟩ hgL).trans z0
     have e1:=(World.cell?_alloc_lt wr.drew (.cells #[.int .i64 (p:Int)] 3) ⟨gb,k*2+1,none⟩ hgL).trans z1
     have e1b:(wr.alloc (.cells #[.int .i64 (p:Int)] 3)).cell? ⟨gb,k*2+1,none⟩=some (.string sx):=e1
     have e1c:(wr.alloc (.cells #[.int .i64 (p:Int)] 3)).drew.cell? ⟨gb,k*2+1,none⟩=some (.string sx):=e1
     have CS:Hid (∀(j:Nat) (u:Value),[Value.int .i64 3,.slice (some ⟨wr.heap.size,0,none⟩) 1 1,.string sx][j]? =some u→((wr.drew.alloc (.cells #[.int .i64 (p:Int)] 3)).alloc (.cells #[.int .i64 3,.slice (some ⟨wr.heap.size,0,none⟩) 1 1,.string sx] 114)).cell? ((⟨wr.heap.size+1,0,none⟩:Addr).add j)=some u):=by
      have:=za0 (wr.drew.alloc (.cells #[.int .i64 (p:Int)] 3)) 3 (.slice (some ⟨wr.heap.size,0,none⟩) 1 1) sx 114
      rw [World.size_alloc] at this
      exact this
     clear hox0 hox y0 y1
     go_wp2_with fail
     go_region_law (refine zam rfl (.tmp 138) (.tmp 151) 104 rfl w.heap.size 114 fi0 _ 3 48 Tryz.underlying104 hf0 hy0 hy1 hy2 rfl (by decide) (.slice a3 (n1+k) c3) (n1+k) (fcs us2 L) (by simp [Act.eval,Act.put]) ((HOX.out.alloc _).alloc _) ⟨wr.heap.size+1,0,none⟩ 1 1 [Value.int .i64 3,.slice (some ⟨wr.heap.size,0,none⟩) 1 1,.string sx] (by simp [Act.eval,Act.put]) rfl CS.out (zcl 3 _ 1 1 sx) (by unfold maxLen;omega) (by omega) (by simp;omega) ?_;intro v7 w7 ho7 hg7;obtain ⟨ao7,c7,rfl⟩:=za3 ho7)
     all_goals
      have hbx:Below wr.heap.size wr ((wr.drew.alloc (.cells #[.int .i64 (p:Int)] 3)).alloc (.cells #[.int .i64 3,.slice (some ⟨wr.heap.size,0,none⟩) 1 1,.string sx] 114)):=((Below.refl _ wr).drew.alloc (by simp) _).alloc (by simp) _
      have ho4:OwnI ((wr.drew.alloc (.cells #[.int .i64 (p:Int)] 3)).alloc (.cells #[.int .i64 3,.slice (some ⟨wr.heap.size,0,none⟩) 1 1,.string sx] 114)) w.heap.size (.slice (some ⟨wr.heap.size,0,none⟩) 1 1) [(p:Int)]:=(World.ownsRow_lit (base:=w.heap.size) (e:=3) (size:=1) wr.drew #[.int .i64 (p:Int)] 1 (by simp;omega) (by unfold maxLen;omega) rfl).alloc _
      have HX7:Hid (FOwn w7 w.heap.size (.slice ao7 (n1+k+1) c7) (us2++ [.slice (some ⟨wr.heap.size,0,none⟩) 1 1]) (L++ [pfr (p,sx)])):=(HX.out.below hbx).app (f:=pfr (p,sx)) ho4 HGP.out (by rw [HLK.out];exact ho7) hg7
      have HB7:Hid (Below w.heap.size w w7):=(HB.out.trans (hbx.mono HB.out.size)).grown hg7 (by simp;omega) (fun q e=>(HOX.out.lt q e).1)
      have HP7:Hid (w7.ownsRow w.heap.size 131 2 (.slice (some ⟨gb,0,none⟩) m c) m (zbi l)):=(Off.of_grown (K:=fun q=>(Value.slice a3 (n1+k) c3).ownBlock=some q) hg7 (fun q e=>e)).row (own_below HP.out hbx) (fun q e=>zmf (own_below HP.out hbx) ((HOX.out.alloc _).alloc _) (by decide) q e)
      clear hbx ho4 ho7 hg7 e0 e1 e1b e1c z0 z1 CS
      go_wp2_with fail
      go_roundg (m-(k+1))
      case measure=>have:=HK.out;omega
      case rel=>exact ⟨k+1,ao7,c7,_,by have:=HK.out;omega,by go_num,by rw [Nat.add_assoc],(by show FOwn _ _ _ _ _;rw [HN.out,←Nat.add_assoc];exact HX7.out),HB7.out,HP7.out⟩
    ·have hkm:k=m:=by have:=HK.out;omega
     have HE:Hid (L1++(l.take k).map pfr=frs e):=by
      show _=_
      rw [List.take_of_length_le (by have:=HM2.out;omega)]
      exact HFR.out
     have HX8:Hid (FOwn wr w.heap.size (.slice a3 (frs e).length c3) us2 (frs e)):=by
      have h1:=HX.out
      rw [HE.out] at h1
      have h2:n1+k=(frs e).length:=by
       rw [←HE.out,List.length_append,List.length_map,List.length_take,HL1.out]
       have:=HM2.out
       omega
      rw [h2] at h1
      exact h1
     have hfl:n1+k=(frs e).length:=by
      rw [←HE.out,List.length_append,List.length_map,List.length_take,HL1.out]
      have:=HM2.out
      omega
     rw [hfl]
     have hfl2:(frs e).length≤12:=(zie HM.out).2.2.1
     have HPK:Hid (∀X,Below wr.heap.size wr X→Calls Tryz.prog 63 #[.int .i64 (e.m:Int),.int .i64 e.k,.slice a3 (frs e).length c3] X fun ex w'=>ex= .returned (.tuple #[.string (zbj e),.int .i64 0])∧Below X.heap.size X w'):=fun X hX=>by
      have:=zE7 (e.m:Int) e.k _ (frs e) X ((HX8.out.below hX).row (by omega)) HM.out
      rw [zmu HM.out]
      exact this
     clear HX HX8 HFR HE hkm
     have q62:=(HB.out.cell (p:=⟨eb,62,none⟩) hlt).trans c62
     have q63:=(HB.out.cell (p:=⟨eb,63,none⟩) hlt).trans c63
     have hebw:eb<wr.heap.size:=Nat.lt_of_lt_of_le hlt HB.out.size
     have q62d:wr.drew.cell? ⟨eb,62,none⟩=some (.slice aom e.m cm):=q62
     have q63d:wr.drew.cell? ⟨eb,63,none⟩=some (.int .i64 e.k):=q63
     have HBW:Hid (Below wr.heap.size wr wr.drew):=⟨rfl,rfl,rfl,Nat.le_refl _,fun _ _=>rfl⟩
     have hpk2:=HPK.out wr.drew HBW.out
     generalize hmb:zbj e=mb at HPK hpk2
     have HMB:Hid (zbj e=mb):=hmb
     clear hmb
     generalize (frs e).length=fl at *
     go_upto_region 29 with fail
     go_cut [12,13] (fun s12 s13 wx=>s12= .string mb∧Hid (Below wr.heap.size wr wx))
     case first=>
      go_region_held3 (fun X=>X.cell? ⟨eb,62,none⟩=some (.slice aom e.m cm)∧X.cell? ⟨eb,63,none⟩=some (.int .i64 e.k)) (go_keep) (first | (go_at_call 63;refine hpk2.mono ?_;rintro ex w9 ⟨rfl,hb9⟩;have y2:=(hb9.cell (p:=⟨eb,62,none⟩) hebw).trans q62d;have y3:=(hb9.cell (p:=⟨eb,63,none⟩) hebw).trans q63d))
      all_goals (try go_wp2_with fail)
      all_goals go_meet
      all_goals exact ⟨rfl,HBW.out.trans (by first | exact hb9 | exact (hb9.drew))⟩
     case rest=>
     obtain ⟨rfl,HB9⟩:=hcut
     have hB10:Below w.heap.size w wc:=HB.out.trans (HB9.out.mono HB.out.size)
     have q62:=(hB10.cell (p:=⟨eb,62,none⟩) hlt).trans c62
     have HRM2:Hid (wc.ownsRow B 101 1 (.slice aom e.m cm) e.m us):=own_below HRM.out hB10
     have HP10:Hid (wc.ownsRow w.heap.size 131 2 (.slice ao m c) m (zbi l)):=own_below HP.out HB9.out
     have hsz:=hB10.size
     have hBle:=HO.out.le
     have hm1:=HO.out.inv.m1
     obtain ⟨qi0,hq0,hr0,hr1,hr2⟩:=info_parts zHn
     have HBA:Hid (Below w.heap.size w (wc.alloc (.cells #[.slice ao m c] 101))):=hB10.alloc hB10.size _
     have CS:Hid (∀(j:Nat) (u:Value),[Value.slice ao m c][j]? =some u→(wc.alloc (.cells #[.slice ao m c] 101)).cell? ((⟨wc.heap.size,0,none⟩:Addr).add j)=some u):=zp3 wc _ _
     have HFZ:Hid (∀i,w.frozen? ⟨eb,i,none⟩=false):=HO.out.fz
     have HVE:Hid ((Value.slice aom e.m cm).ownBlock≠some eb):=by
      have:=fun e1=>(HO.out.am eb (.inl e1)).1 rfl
      rw [HVM.out] at this
      exact this
     have HPA:Hid ((wc.alloc (.cells #[.slice ao m c] 101)).ownsRow w.heap.size 131 2 (.slice ao m c) l.length (zbi l)):=by
      show World.ownsRow _ _ _ _ _ _ _
      rw [HM2.out]
      exact own_below HP10.out ((Below.refl _ _).alloc (Nat.le_refl _) _)
     clear HP HB9 hB10
     go_wp2_with (at_builtin;refine wpList_append_own_at _ rfl (.tmp 171) (.tmp 173) 85 rfl B 101 qi0 _ 1 24 Tryz.underlying85 hq0 hr0 hr1 hr2 rfl (by decide) _ _ us rfl (HRM2.out.alloc _) ⟨wc.heap.size,0,none⟩ 1 1 [Value.slice ao m c] rfl rfl CS.out (by intro u hu;simp at hu;subst hu;rfl) (by unfold maxLen;omega) (by omega) (by simp;omega) ?_;intro vq wq hoq hgq hqq hlq;clear hqq;obtain ⟨aq,cq,rfl⟩:=za3 hoq;have HTF:Hid (DTurn w (wq.setCell ⟨eb,62,none⟩ (.slice aq (e.m+1) cq)) B eb vm vc sb cb us (zbn e)):=HO.out.made HM.out HL.out HBA.out HPA.out hoq (by rw [HVM.out];exact hgq) (by rw [HVM.out];exact hlq);have Q62:=(Off.of_grown (K:=fun q=>(Value.slice aom e.m cm).ownBlock=some q) hgq (fun q e=>e)).cell ((HBA.out.cell (p:=⟨eb,62,none⟩) hlt).trans c62) HVE.out;have QF:wq.frozen? ⟨eb,62,none⟩=false:=((Off.of_grown (K:=fun q=>(Value.slice aom e.m cm).ownBlock=some q) hgq (fun q e=>e)).frozen (p:=⟨eb,62,none⟩) (Nat.lt_of_lt_of_le hlt HBA.out.size) HVE.out).trans ((World.frozen?_of_block (HBA.out.block eb hlt)).trans (HFZ.out 62)))
     go_ret
     exact ⟨by rw [HMB.out];rfl,HTF.out⟩
end Go.Proofs.YtdnehibcpkjafaaGreatDoor
