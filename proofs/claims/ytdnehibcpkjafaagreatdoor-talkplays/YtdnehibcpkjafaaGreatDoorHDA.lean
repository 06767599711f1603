/- What TalkPlays needs. -/
import Derived.Test.YtdnehibcpkjafaaGreatDoorHX
set_option linter.unusedVariables false
set_option linter.unusedSimpArgs false
set_option maxRecDepth 100000
set_option maxHeartbeats 8000000
namespace Go.Proofs.YtdnehibcpkjafaaGreatDoor
open Go.RowKit Go.Lib Go.Sort
open Sx (bat)
abbrev Pc:=Nat×ByteArray
def pat (md:List (List Pc)) (j:Nat):List Pc:=md[j]?.getD []
def zdv (e:En) (vm vc:Value) (sb cb:Nat) (i:Nat):Value:=
 if i=0 then .string e.d else if i<61 then .bool (decide (i-1<e.t)) else if i=61 then .int .i64 e.l else if i=62 then vm else if i=63 then .int .i64 e.k else if i=64 then vc else if i=65 then .pointer (some ⟨sb,0,none⟩) else .pointer (some ⟨cb,0,none⟩)
section
variable {e : En} {vm vc : Value} {sb cb : Nat}
theorem zkn:zdv e vm vc sb cb 0= .string e.d:=rfl
theorem zqp {i:Nat} (h:i<60):zdv e vm vc sb cb (1+i)= .bool (decide (i<e.t)):=by
 unfold zdv
 rw [if_neg (by omega),if_pos (by omega),show 1+i-1=i by omega]
theorem zyb:zdv e vm vc sb cb 61= .int .i64 e.l:=rfl
theorem zka:zdv e vm vc sb cb 62=vm:=rfl
theorem zuj:zdv e vm vc sb cb 63= .int .i64 e.k:=rfl
theorem zjq:zdv e vm vc sb cb 64=vc:=rfl
theorem zl8:zdv e vm vc sb cb 65= .pointer (some ⟨sb,0,none⟩):=rfl
theorem zkd:zdv e vm vc sb cb 66= .pointer (some ⟨cb,0,none⟩):=rfl
end
structure Mds (e:En) (md:List (List Pc)):Prop where
 len:md.length=e.m
 each:∀x∈e.ls,∀j,x.lo≤j→j≤x.hi→pat md j=pcs e.d x.b 3 x.a
 all:∀j,j<e.m→∃x∈e.ls,x.lo≤j∧j≤x.hi
 lst:∀x,e.ls.getLast? =some x→x.hi+1=e.m
 low:∀x∈e.ls,x.lo≤x.hi
theorem Mds.write {e:En} {md:List (List Pc)} (h:Mds e md) (hi:EInv e) (b:ByteArray):Mds (za9 e b) md:=by
 unfold za9
 split
 ·exact h
 ·refine ⟨h.len,fun x hx j h1 h2=> ?_,h.all,h.lst,h.low⟩
  have:=(hi.ls x hx).2.2.2
  have:=zge e
  rw [h.each x hx j h1 h2]
  exact (zlk (by omega) _ _).symm
theorem Mds.read {e:En} {md:List (List Pc)} (h:Mds e md) (n:Int):Mds (zbg e n) md:=by
 unfold zbg
 split
 ·exact ⟨h.len,h.each,h.all,h.lst,h.low⟩
 ·exact h
theorem Mds.new (n:Int):Mds (newE n) []:=⟨rfl,fun x hx=>by simp [newE] at hx,fun j hj=>by simp [newE] at hj,fun x hx=>by simp [newE] at hx,fun x hx=>by simp [newE] at hx⟩
def OwnD (eb:Nat) (vm vc:Value) (sb cb:Nat) (us:List Value) (k:Nat):Prop:=k=eb∨k=sb∨k=cb∨vm.ownBlock=some k∨vc.ownBlock=some k∨∃j,j<us.length∧(uat us j).ownBlock=some k
structure DO (w:World) (B eb:Nat) (vm vc:Value) (sb cb:Nat) (us:List Value) (md:List (List Pc)) (e:En):Prop where
 inv:EInv e
 mds:Mds e md
 cl:∀i,i<67→w.cell? ⟨eb,i,none⟩=some (zdv e vm vc sb cb i)
 fz:∀i,w.frozen? ⟨eb,i,none⟩=false
 hs:B≤eb
 st:Sx.Ref w B sb e.s
 cr:Cx.Obj w B cb e.c
 rm:w.ownsRow B 101 1 vm us.length us
 ul:us.length=e.m
 ru:∀j,j<us.length→w.ownsRow B 131 2 (uat us j) (pat md j).length (zbi (pat md j))
 cm:w.ownsRow B 129 2 vc e.cm.length (flat e.cm)
 ap:eb≠sb∧eb≠cb∧sb≠cb
 am:∀k,(vm.ownBlock=some k∨vc.ownBlock=some k∨∃j,j<us.length∧(uat us j).ownBlock=some k)→k≠eb∧k≠sb∧k≠cb
section
variable {w w' : World} {B eb sb cb : Nat} {vm vc : Value} {us : List Value} {md : List (List Pc)} {e : En}
theorem DO.lt (h:DO w B eb vm vc sb cb us md e):eb<w.heap.size:=World.block_lt_of_cell? w _ (h.cl 0 (by omega))
theorem DO.own_lt (h:DO w B eb vm vc sb cb us md e) {k:Nat} (hk:OwnD eb vm vc sb cb us k):B≤k∧k<w.heap.size:=by
 rcases hk with rfl | rfl | rfl | hk | hk | ⟨j,hj,hk⟩
 ·exact ⟨h.hs,h.lt⟩
 ·exact ⟨h.st.hs,h.st.lt⟩
 ·exact ⟨h.cr.hs,h.cr.lt⟩
 ·exact h.rm.lt k hk
 ·exact h.cm.lt k hk
 ·exact (h.ru j hj).lt k hk
theorem DO.le (h:DO w B eb vm vc sb cb us md e):B≤w.heap.size:=by have:=h.hs;have:=h.lt;omega
theorem DO.off {K:Nat→Prop} (h:DO w B eb vm vc sb cb us md e) (ho:Off K w w') (hK:∀k,OwnD eb vm vc sb cb us k→¬K k):DO w' B eb vm vc sb cb us md e:=
 ⟨h.inv,h.mds,fun i hi=>ho.cell (h.cl i hi) (hK eb (.inl rfl)),fun i=>(ho.frozen (p:=⟨eb,i,none⟩) h.lt (hK eb (.inl rfl))).trans (h.fz i),h.hs,h.st.off ho (hK sb (.inr (.inl rfl))),h.cr.off ho (hK cb (.inr (.inr (.inl rfl)))),
  ho.row h.rm fun k hk=>hK k (.inr (.inr (.inr (.inl hk)))),h.ul,fun j hj=>ho.row (h.ru j hj) fun k hk=>hK k (.inr (.inr (.inr (.inr (.inr ⟨j,hj,hk⟩))))),ho.row h.cm fun k hk=>hK k (.inr (.inr (.inr (.inr (.inl hk))))),h.ap,h.am⟩
theorem DO.below (h:DO w B eb vm vc sb cb us md e) (hb:Below w.heap.size w w'):DO w' B eb vm vc sb cb us md e:=h.off (Off.of_below (K:=fun _=>False) hb) fun _ _=>id
theorem DO.base (h:DO w B eb vm vc sb cb us md e) {B':Nat} (hb:B'≤B):DO w B' eb vm vc sb cb us md e:=
 ⟨h.inv,h.mds,h.cl,h.fz,Nat.le_trans hb h.hs,h.st.base hb,⟨h.cr.inv,h.cr.four,Nat.le_trans hb h.cr.hs⟩,za8 h.rm hb,h.ul,fun j hj=>za8 (h.ru j hj) hb,za8 h.cm hb,h.ap,h.am⟩
def DTurn (w w':World) (B eb:Nat) (vm vc:Value) (sb cb:Nat) (us:List Value) (e:En):Prop:=
 ∃vm' vc' us' md',DO w' B eb vm' vc' sb cb us' md' e∧Off (OwnD eb vm vc sb cb us) w w'∧∀k,OwnD eb vm' vc' sb cb us' k→OwnD eb vm vc sb cb us k∨w.heap.size≤k
theorem DTurn.below (h:DO w B eb vm vc sb cb us md e) (hb:Below w.heap.size w w'):DTurn w w' B eb vm vc sb cb us e:=⟨vm,vc,us,md,h.below hb,Off.of_below hb,fun _ hk=> .inl hk⟩
theorem DTurn.same (h:DO w B eb vm vc sb cb us md e):DTurn w w B eb vm vc sb cb us e:=⟨vm,vc,us,md,h,Off.refl _ _,fun _ hk=> .inl hk⟩
end
theorem zvy (n:Int) (sb cb:Nat):(((Tryz.zeroCells89.setIfInBounds 61 (.int .i64 n)).setIfInBounds 63 (.int .i64 (-1))).setIfInBounds 65 (.pointer (some ⟨sb,0,none⟩))).setIfInBounds 66 (.pointer (some ⟨cb,0,none⟩))=(row 67 (zdv (newE n) (.slice none 0 0) (.slice none 0 0) sb cb)).toArray:=by kernel_rfl
theorem zBi {n:Int} (hn:Cx.winB n=true) {w:World} {B sb cb:Nat} (hB:B≤w.heap.size) (h1:Sx.Ref w B sb Sx.newS) (h2:Cx.Obj w B cb (Cx.newS n)) (hne:sb≠cb):DO (w.alloc (.cells (row 67 (zdv (newE n) (.slice none 0 0) (.slice none 0 0) sb cb)).toArray 89)) B w.heap.size (.slice none 0 0) (.slice none 0 0) sb cb [] [] (newE n):=by
 have hb:Below w.heap.size w (w.alloc (.cells (row 67 (zdv (newE n) (.slice none 0 0) (.slice none 0 0) sb cb)).toArray 89)):=(Below.refl _ _).alloc (Nat.le_refl _) _
 exact ⟨EInv.new hn,Mds.new n,fun i hi=>by simp [row,hi],fun i=>by simp,hB,h1.below hb,h2.below hb,World.ownsRow_nil _ _ _ _,rfl,fun j hj=>by simp at hj,World.ownsRow_nil _ _ _ _,⟨by have:=h1.lt;omega,by have:=h2.lt;omega,hne⟩,fun k hk=>by
  rcases hk with h | h | ⟨j,hj,_⟩
  ·cases h
  ·cases h
  ·simp at hj⟩
theorem zta (n:Int) (w:World) (hn:Cx.winB n=true):Calls Tryz.prog 36 #[.int .i64 n] w fun ex w'=>∃eb sb cb,ex= .returned (.pointer (some ⟨eb,0,none⟩))∧DO w' w.heap.size eb (.slice none 0 0) (.slice none 0 0) sb cb [] [] (newE n)∧Below w.heap.size w w':=by
 go_enter Tryz.func36,Tryz.ntmps36
 go_wp2_with fail
 refine (Sx.zsw w).mono ?_
 rintro ex w1 ⟨rfl,hS,hb1⟩
 have hsz:(w1.alloc (.cells #[.int .i64 n,.int .i64 n,.int .i64 0,.int .i64 0] 124)).heap.size=w1.heap.size+1:=by simp
 have hbc:Below w1.heap.size w1 (w1.alloc (.cells #[.int .i64 n,.int .i64 n,.int .i64 0,.int .i64 0] 124)):=(Below.refl _ _).alloc (Nat.le_refl _) _
 have hC:Cx.Obj (w1.alloc (.cells #[.int .i64 n,.int .i64 n,.int .i64 0,.int .i64 0] 124)) w.heap.size w1.heap.size (Cx.newS n):=⟨Cx.Inv.start hn,Cx.Four.new w1 n _,hb1.size⟩
 have hD:=zBi hn (B:=w.heap.size) (by rw [hsz];have:=hb1.size;omega) (hS.below hbc) hC (by have:=hS.lt;omega)
 rw [hsz,←zvy] at hD
 have hB:Below w.heap.size w (w1.alloc (.cells #[.int .i64 n,.int .i64 n,.int .i64 0,.int .i64 0] 124)):=hb1.alloc hb1.size _
 have HD:Hid (DO _ w.heap.size (w1.heap.size+1) (.slice none 0 0) (.slice none 0 0) w.heap.size w1.heap.size [] [] (newE n)):=hD
 have HB:Hid (Below w.heap.size w (w1.alloc (.cells #[.int .i64 n,.int .i64 n,.int .i64 0,.int .i64 0] 124))):=hB
 clear hD hC hbc hsz hS hB
 go_wp2_with fail
 go_ret
 exact ⟨_,_,_,rfl,HD.out,HB.out.alloc HB.out.size _⟩
section
variable {w w' : World} {B eb sb cb : Nat} {vm vc : Value} {us : List Value} {md : List (List Pc)} {e : En}
theorem DO.set (h:DO w B eb vm vc sb cb us md e) {e':En} (hinv:EInv e') (hmds:Mds e' md) (hs:e'.s=e.s) (hc:e'.c=e.c) (hm:e'.m=e.m) (hcm:e'.cm=e.cm) (i0:Nat) (hi0:i0<67) (u:Value) (hu:u=zdv e' vm vc sb cb i0) (ho:∀i,i<67→i≠i0→zdv e' vm vc sb cb i=zdv e vm vc sb cb i):DO (w.setCell ⟨eb,i0,none⟩ u) B eb vm vc sb cb us md e'∧Off (fun k=>k=eb) w (w.setCell ⟨eb,i0,none⟩ u):=by
 have hf:Off (fun k=>k=eb) w (w.setCell ⟨eb,i0,none⟩ u):=(Off.refl (fun k=>k=eb) w).setCell (a:=⟨eb,i0,none⟩) rfl u
 refine ⟨⟨hinv,hmds,fun i hi=> ?_,fun i=>by simpa using h.fz i,h.hs,by rw [hs];exact h.st.off hf (fun e=>h.ap.1 e.symm),by rw [hc];exact h.cr.off hf (fun e=>h.ap.2.1 e.symm),hf.row h.rm fun k hk=>(h.am k (.inl hk)).1,by rw [hm];exact h.ul,fun j hj=>hf.row (h.ru j hj) fun k hk=>(h.am k (.inr (.inr ⟨j,hj,hk⟩))).1,by rw [hcm];exact hf.row h.cm fun k hk=>(h.am k (.inr (.inl hk))).1,h.ap,h.am⟩,hf⟩
 by_cases e1:i=i0
 ·rw [e1,←hu]
  exact World.cell?_setCell_same _ _ _ (h.cl i0 hi0)
 ·rw [World.cell?_setCell_other _ _ _ _ (fun e2=>by injection e2 with _ e2 _;exact e1 e2.symm),h.cl i hi,ho i hi e1]
theorem DTurn.of (h:DO w' B eb vm vc sb cb us md e) (hf:Off (OwnD eb vm vc sb cb us) w w'):DTurn w w' B eb vm vc sb cb us e:=⟨vm,vc,us,md,h,hf,fun _ hk=> .inl hk⟩
theorem zp2 (b:ByteArray) (i:Nat) (hi:i≠0):zdv {e with d:=e.d++b} vm vc sb cb i=zdv e vm vc sb cb i:=by
 unfold zdv
 rw [if_neg hi,if_neg hi]
end
theorem zwm {w:World} {B eb sb cb:Nat} {vm vc:Value} {us:List Value} {md:List (List Pc)} {e:En} (h:DO w B eb vm vc sb cb us md e) (b:ByteArray) (hl:b.size≤140737488351232) (hf:60<e.d.size+b.size):Calls Tryz.prog 16 #[.pointer (some ⟨eb,0,none⟩),.string b] w fun ex w'=>ex= .returned (.int .i64 4)∧w=w':=by
 have c0:=h.cl 0 (by omega)
 rw [zkn] at c0
 have hd:=h.inv.d60
 have g:(60:Int)<(e.d.size:Int)+(b.size:Int):=by omega
 clear h
 go_enter Tryz.func16,Tryz.ntmps16
 go_wp2_with fail
 go_ret
 exact ⟨rfl,rfl⟩
theorem zsp {w:World} {B eb sb cb:Nat} {vm vc:Value} {us:List Value} {md:List (List Pc)} {e:En} (h:DO w B eb vm vc sb cb us md e) (b:ByteArray) (hf:e.d.size+b.size≤60):Calls Tryz.prog 16 #[.pointer (some ⟨eb,0,none⟩),.string b] w fun ex w'=>ex= .returned (.int .i64 0)∧w'=w.setCell ⟨eb,0,none⟩ (.string (e.d++b)):=by
 have c0:=h.cl 0 (by omega)
 have f0:=h.fz 0
 rw [zkn] at c0
 have g:¬(60:Int)<(e.d.size:Int)+(b.size:Int):=by omega
 have hadd:∀w,(Op.stringOp .add e.d b).run Tryz.prog w= .ok (.string (e.d++b)) w:=fun w=>run_string_add_sum w _ _ (by omega)
 clear h
 go_enter Tryz.func16,Tryz.ntmps16
 go_wp2_with fail
 go_ret
 exact ⟨rfl,rfl⟩
theorem zia {w:World} {B eb sb cb:Nat} {vm vc:Value} {us:List Value} {md:List (List Pc)} {e:En} (h:DO w B eb vm vc sb cb us md e) (b:ByteArray) (hl:b.size≤140737488351232):Calls Tryz.prog 16 #[.pointer (some ⟨eb,0,none⟩),.string b] w fun ex w'=>ex= .returned (.int .i64 (zee e b))∧DTurn w w' B eb vm vc sb cb us (za9 e b):=by
 by_cases hf:60<e.d.size+b.size
 ·rw [zee,if_pos hf,za9,if_pos hf]
  exact (zwm h b hl hf).mono fun ex w' ⟨a,d⟩=>⟨a,d ▸ DTurn.same h⟩
 ·refine (zsp h b (by omega)).mono fun ex w' ⟨a,d⟩=>⟨by rw [a,zee,if_neg hf],?_⟩
  have hw:za9 e b= {e with d:=e.d++b}:=by unfold za9;rw [if_neg hf]
  have hi:=h.inv.write b
  have hm:=h.mds.write h.inv b
  rw [hw] at hi hm ⊢
  obtain ⟨o,f⟩:=h.set hi hm rfl rfl rfl rfl 0 (by omega) (.string (e.d++b)) rfl (fun i _ hne=>zp2 b i hne)
  rw [d]
  exact DTurn.of o (f.mono fun k _ hk=> .inl hk)
theorem zsq {w:World} (eb:Nat) (n:Int) (hn:n<0):Calls Tryz.prog 17 #[.pointer (some ⟨eb,0,none⟩),.int .i64 n] w fun ex w'=>ex= .returned (.tuple #[.string {data:= #[]},.int .i64 1])∧w=w':=by
 go_enter Tryz.func17,Tryz.ntmps17
 go_wp2_with fail
 go_ret2
 exact ⟨rfl,rfl⟩
theorem ztt {w:World} {B eb sb cb:Nat} {vm vc:Value} {us:List Value} {md:List (List Pc)} {e:En} (h:DO w B eb vm vc sb cb us md e) (n:Int) (hn:0≤n) (hg:readF e n=0):Calls Tryz.prog 17 #[.pointer (some ⟨eb,0,none⟩),.int .i64 n] w fun ex w'=>ex= .returned (.tuple #[.string (zdc e n),.int .i64 0])∧DTurn w w' B eb vm vc sb cb us (zbg e n):=by
 have HO:Hid (DO w B eb vm vc sb cb us md e):=h
 have c6:=h.cl 65 (by omega)
 rw [zl8] at c6
 have hb:zdc e n=strOfNums (Sx.zc2 e.s n):=if_pos hg
 have hS:zbg e n= {e with s:=Sx.zba e.s n,c:=Cx.getS e.c (Sx.takeN e.s n:Nat)}:=if_pos hg
 have hz:(strOfNums (Sx.zc2 e.s n)).size=Sx.takeN e.s n:=by rw [strOfNums_size];simp [Sx.zc2]
 have hgf:Cx.getF e.c (Sx.takeN e.s n:Nat)=0:=by
  unfold readF at hg
  rwa [if_neg (by omega)] at hg
 have hT:=Sx.zf6 h.st n hn
 have HIV:Hid (EInv (zbg e n)):=h.inv.read n
 have HMD:Hid (Mds (zbg e n) md):=h.mds.read n
 rw [hb]
 rw [hS] at HIV HMD ⊢
 generalize hsv:strOfNums (Sx.zc2 e.s n)=sv at hT hz
 have HGF:Hid (∀X,Cx.Obj X B cb e.c→Calls Tryz.prog 38 #[.pointer (some ⟨cb,0,none⟩),.int .i64 (sv.size:Int)] X fun ex w'=>ex= .returned (.int .i64 0)∧Cx.Turned X w' B cb (Cx.getS e.c (Sx.takeN e.s n:Nat))):=fun X hX=>by
  have:=Cx.zug hX ((Sx.takeN e.s n:Nat):Int)
  rw [hgf] at this
  rw [hz]
  exact this
 clear h hb hS hz hgf hg hsv
 go_enter Tryz.func17,Tryz.ntmps17
 go_wp2_with fail
 refine hT.mono ?_
 rintro ex w1 ⟨rfl,hR1,hf1⟩
 have c7:=hf1.cell (HO.out.cl 66 (by omega)) HO.out.ap.1
 rw [zkd] at c7
 have hc1:=HO.out.cr.off hf1 (fun e=>HO.out.ap.2.2 e.symm)
 have hcc:=HGF.out w1 hc1
 clear hT
 go_wp2_with fail
 refine hcc.mono ?_
 rintro ex w2 ⟨rfl,hR2,hf2⟩
 have HF:Hid (DTurn w w2 B eb vm vc sb cb us {e with s:=Sx.zba e.s n,c:=Cx.getS e.c (Sx.takeN e.s n:Nat)}):=by
  have h:=HO.out
  have hf:Off (fun k=>k=sb∨k=cb) w w2:=(hf1.mono fun k _ hk=> .inl hk).trans (hf2.mono fun k _ hk=> .inr hk)
  refine DTurn.of (md:=md) ⟨HIV.out,HMD.out,fun i hi=>hf.cell (h.cl i hi) (fun hk=>by rcases hk with hk | hk;exact h.ap.1 hk;exact h.ap.2.1 hk),fun i=>(hf.frozen (p:=⟨eb,i,none⟩) h.lt (fun hk=>by rcases hk with hk | hk;exact h.ap.1 hk;exact h.ap.2.1 hk)).trans (h.fz i),h.hs,hR1.off hf2 (fun hk=>h.ap.2.2 hk),hR2,hf.row h.rm fun k hk hk2=> ?_,h.ul,fun j hj=>hf.row (h.ru j hj) fun k hk hk2=> ?_,hf.row h.cm fun k hk hk2=> ?_,h.ap,h.am⟩ (hf.mono fun k _ hk=>by rcases hk with hk | hk;exact .inr (.inl hk);exact .inr (.inr (.inl hk)))
  ·have:=h.am k (.inl hk);rcases hk2 with e | e;exact this.2.1 e;exact this.2.2 e
  ·have:=h.am k (.inr (.inr ⟨j,hj,hk⟩));rcases hk2 with e | e;exact this.2.1 e;exact this.2.2 e
  ·have:=h.am k (.inr (.inl hk));rcases hk2 with e | e;exact this.2.1 e;exact this.2.2 e
 clear hcc hR1 hf1 hR2 hf2 hc1 c7
 go_wp2_with fail
 go_ret2
 exact ⟨rfl,HF.out⟩
end Go.Proofs.YtdnehibcpkjafaaGreatDoor
namespace Go.Proofs.YtdnehibcpkjafaaGreatDoor
open Go.RowKit Go.Lib Go.Sort
theorem zqx {d:ByteArray} {b:Nat} (hb:b≤d.size):∀(k a j:Nat) (p:Pc),(pcs d b k a)[j]? =some p→p.1=a+20*j∧p.1+p.2.size=min b (a+20*(j+1))
 | 0,a,j,p,h=>by simp [pcs] at h
 | k+1,a,j,p,h=>by
  by_cases hab:a<b
  ·have e:pcs d b (k+1) a=(a,d.extract a (min b (a+20)))::pcs d b k (min b (a+20)):=by simp only [pcs];rw [if_pos hab]
   rw [e] at h
   cases j with
   | zero=>
    rw [List.getElem?_cons_zero] at h
    injection h with h
    subst h
    simp only [ByteArray.size_extract]
    omega
   | succ j=>
    rw [List.getElem?_cons_succ] at h
    by_cases h2:a+20≤b
    ·rw [show min b (a+20)=a+20 by omega] at h
     have ih:=zqx hb k (a+20) j p h
     omega
    ·rw [show min b (a+20)=b by omega,zqu] at h
     simp at h
  ·simp only [pcs] at h
   rw [if_neg hab] at h
   simp at h
theorem zpt {d:ByteArray} {b:Nat}:∀(k a:Nat),a≤b→b≤a+20*k→min b (a+20*(pcs d b k a).length)=b
 | 0,a,h1,h2=>by simp [pcs];omega
 | k+1,a,h1,h2=>by
  by_cases hab:a<b
  ·have e:pcs d b (k+1) a=(a,d.extract a (min b (a+20)))::pcs d b k (min b (a+20)):=by simp only [pcs];rw [if_pos hab]
   have ih:=zpt (d:=d) (b:=b) k (min b (a+20)) (by omega) (by omega)
   rw [e,List.length_cons]
   by_cases h3:a+20≤b
   ·rw [show min b (a+20)=a+20 by omega] at ih ⊢
    omega
   ·rw [show min b (a+20)=b by omega] at ih ⊢
    omega
  ·simp only [pcs]
   rw [if_neg hab]
   simp
   omega
def tellM (f:Nat→Nat) (t lo:Nat):Nat→Nat
 | 0=>t
 | c+1=>max (tellM f t lo c) (f (lo+c))
theorem zr3 {f:Nat→Nat} {t lo b:Nat}:∀c,t≤b→(∀j,j<c→f (lo+j)≤b)→tellM f t lo c≤b
 | 0,h,_=>h
 | c+1,h,hf=>by
  have i:=zr3 c h (fun j hj=>hf j (by omega))
  have:=hf c (by omega)
  simp only [tellM]
  omega
theorem zqz {f:Nat→Nat} {t lo:Nat}:∀c,t≤tellM f t lo c∧∀j,j<c→f (lo+j)≤tellM f t lo c
 | 0=>⟨Nat.le_refl _,fun j hj=>by omega⟩
 | c+1=>by
  obtain ⟨i1,i2⟩:=zqz (f:=f) (t:=t) (lo:=lo) c
  refine ⟨by simp only [tellM];omega,fun j hj=> ?_⟩
  simp only [tellM]
  by_cases e:j=c
  ·subst e;omega
  ·have:=i2 j (by omega);omega
theorem zvt {ls:List Ld} {r:R} {b:Nat}:∀t,t≤b→(∀l∈ls,¬((l.hi:Int)<r.1∨r.2<(l.lo:Int))→l.b≤b)→zcu ls t r≤b:=fun t ht h=>(zrh h t ht).2
theorem zAc {ls:List Ld} {f:Nat→Nat} {t lo hi m:Nat} (hm:hi<m) (hlo:lo≤hi) (each:∀x∈ls,∀j,x.lo≤j→j≤x.hi→f j=x.b) (all:∀j,j<m→∃x∈ls,x.lo≤j∧j≤x.hi) (low:∀x∈ls,x.lo≤x.hi):tellM f t lo (hi+1-lo)=zcu ls t ((lo:Int),(hi:Int)):=by
 obtain ⟨g1,g2⟩:=zqz (f:=f) (t:=t) (lo:=lo) (hi+1-lo)
 apply Nat.le_antisymm
 ·have ht:t≤zcu ls t ((lo:Int),(hi:Int)):=by
   have:=zmb (ls:=ls) (b:=ls.foldl (fun b x=>max b x.b) t) ((lo:Int),(hi:Int)) t (zix ls t) (zj4 ls t)
   exact this.1
  refine zr3 _ ht fun j hj=> ?_
  obtain ⟨x,hx,h1,h2⟩:=all (lo+j) (by omega)
  rw [each x hx (lo+j) h1 h2]
  exact zB4 hx (by simp only;omega) t
 ·refine zvt t g1 fun l hl ho=> ?_
  simp only at ho
  have hl1:=low l hl
  have e:=each l hl (max l.lo lo) (by omega) (by omega)
  have:=g2 (max l.lo lo-lo) (by omega)
  rw [show lo+(max l.lo lo-lo)=max l.lo lo by omega,e] at this
  exact this
end Go.Proofs.YtdnehibcpkjafaaGreatDoor
