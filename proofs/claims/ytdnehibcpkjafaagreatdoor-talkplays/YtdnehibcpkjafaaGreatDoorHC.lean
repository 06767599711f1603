/- What TalkPlays needs. -/
import Derived.Test.YtdnehibcpkjafaaGreatDoorHO
import Derived.Test.YtdnehibcpkjafaaGreatDoorHQ
set_option linter.unusedVariables false
set_option linter.unusedSimpArgs false
set_option maxRecDepth 100000
set_option maxHeartbeats 8000000
namespace Go.Proofs.YtdnehibcpkjafaaGreatDoor.Cx
open Go.RowKit Go.Lib Go.Sort
structure St where
 win:Int
 lim:Int
 came:Int
 read:Int
def numB (n:Int):Bool:=decide (0≤n∧n≤1073741823)
def winB (n:Int):Bool:=decide (1≤n∧n≤1000)
def newS (n:Int):St:=⟨n,n,0,0⟩
def zcv (s:St) (u:Int):Int:=if numB u=false then 1 else if s.lim<u then 8 else 0
def upS (s:St) (u:Int):St:=⟨s.win,s.lim,if s.came<u then u else s.came,s.read⟩
def zba (s:St) (u:Int):St:=if zcv s u=0 then upS s u else s
def zcn (s:St) (n:Int):Int:=if s.win/2<s.read+n-(s.lim-s.win) then s.read+n+s.win else s.lim
def getF (s:St) (n:Int):Int:=if n<0 then 1 else if s.came-s.read<n then 8 else if numB (zcn s n)=false then 4 else 0
def getN (s:St) (n:Int):Int:=if getF s n=0 then zcn s n else 0
def getS (s:St) (n:Int):St:=if getF s n=0 then ⟨s.win,zcn s n,s.came,s.read+n⟩ else s
structure Inv (s:St):Prop where
 w1:1≤s.win
 w2:s.win≤1000
 l1:s.win≤s.lim
 l2:s.lim≤1073741823
 c1:s.read≤s.came
 c2:s.came≤s.lim
 r1:s.lim-s.win≤s.read
 r2:s.read-(s.lim-s.win)≤s.win/2
theorem Inv.start {n:Int} (h:winB n=true):Inv (newS n):=by
 have h:1≤n∧n≤1000:=of_decide_eq_true h
 constructor<;>simp only [newS]<;>omega
theorem zqa {s:St} {u:Int} (h:numB u=false):zcv s u=1:=by simp [zcv,h]
theorem zs5 {s:St} {u:Int} (h:numB u=true) (h2:s.lim<u):zcv s u=8:=by simp [zcv,h,h2]
theorem zn3 {s:St} {u:Int} (h:numB u=true) (h2:u≤s.lim):zcv s u=0:=by
 have:¬s.lim<u:=by omega
 simp [zcv,h,this]
theorem zgk {s:St} {u:Int} (h:zcv s u=0):zba s u=upS s u:=if_pos h
theorem ze5 {s:St} {u:Int} (h:zcv s u≠0):zba s u=s:=if_neg h
theorem Inv.up {s:St} (h:Inv s) {u:Int} (h2:u≤s.lim):Inv (upS s u):=by
 obtain ⟨_,_,_,_,_,_,_,_⟩:=h
 constructor<;>simp only [upS]<;>first | omega | (split<;>omega)
theorem zf1 (s:St) (u:Int):(zcv s u=1∧numB u=false)∨(zcv s u=8∧numB u=true∧s.lim<u)∨(zcv s u=0∧numB u=true∧u≤s.lim):=by
 cases h:numB u with
 | false=>exact .inl ⟨zqa h,rfl⟩
 | true=>
  by_cases h2:s.lim<u
  ·exact .inr (.inl ⟨zs5 h h2,rfl,h2⟩)
  ·exact .inr (.inr ⟨zn3 h (by omega),rfl,by omega⟩)
theorem zt6 {s:St} {n:Int} (h:n<0):getF s n=1:=if_pos h
theorem zyq {s:St} {n:Int} (h:0≤n) (h2:s.came-s.read<n):getF s n=8:=by
 have:¬n<0:=by omega
 simp [getF,this,h2]
theorem zyo {s:St} {n:Int} (h:0≤n) (h2:n≤s.came-s.read) (h3:numB (zcn s n)=false):getF s n=4:=by
 have a:¬n<0:=by omega
 have b:¬s.came-s.read<n:=by omega
 simp [getF,a,b,h3]
theorem zrk {s:St} {n:Int} (h:0≤n) (h2:n≤s.came-s.read) (h3:numB (zcn s n)=true):getF s n=0:=by
 have a:¬n<0:=by omega
 have b:¬s.came-s.read<n:=by omega
 simp [getF,a,b,h3]
theorem zhy (s:St) (n:Int):(getF s n=1∧n<0)∨(getF s n=8∧0≤n∧s.came-s.read<n)∨(getF s n=4∧0≤n∧n≤s.came-s.read∧numB (zcn s n)=false)∨(getF s n=0∧0≤n∧n≤s.came-s.read∧numB (zcn s n)=true):=by
 by_cases h:n<0
 ·exact .inl ⟨zt6 h,h⟩
 by_cases h2:s.came-s.read<n
 ·exact .inr (.inl ⟨zyq (by omega) h2,by omega,h2⟩)
 cases h3:numB (zcn s n) with
 | false=>exact .inr (.inr (.inl ⟨zyo (by omega) (by omega) h3,by omega,by omega,rfl⟩))
 | true=>exact .inr (.inr (.inr ⟨zrk (by omega) (by omega) h3,by omega,by omega,rfl⟩))
theorem zBr {s:St} {n:Int} (h:getF s n=0):getN s n=zcn s n:=if_pos h
theorem zqj {s:St} {n:Int} (h:getF s n≠0):getN s n=0:=if_neg h
theorem zl3 {s:St} {n:Int} (h:getF s n=0):getS s n=⟨s.win,zcn s n,s.came,s.read+n⟩:=if_pos h
theorem zew {s:St} {n:Int} (h:getF s n≠0):getS s n=s:=if_neg h
theorem zef {s:St} {n:Int} (h:s.win/2<s.read+n-(s.lim-s.win)):zcn s n=s.read+n+s.win:=if_pos h
theorem zfo {s:St} {n:Int} (h:s.read+n-(s.lim-s.win)≤s.win/2):zcn s n=s.lim:=if_neg (by omega)
theorem Inv.got {s:St} (h:Inv s) {n:Int} (h0:0≤n) (h1:n≤s.came-s.read) (h2:numB (zcn s n)=true):Inv ⟨s.win,zcn s n,s.came,s.read+n⟩:=by
 have h2:0≤zcn s n∧zcn s n≤1073741823:=of_decide_eq_true h2
 obtain ⟨_,_,_,_,_,_,_,_⟩:=h
 by_cases h3:s.win/2<s.read+n-(s.lim-s.win)
 ·rw [zef h3] at h2 ⊢
  constructor<;>simp only<;>omega
 ·rw [zfo (by omega)] at h2 ⊢
  constructor<;>simp only<;>omega
theorem Inv.take {s:St} (h:Inv s) (u:Int):Inv (zba s u):=by
 rcases zf1 s u with ⟨e,_⟩ | ⟨e,_⟩ | ⟨e,_,h2⟩
 ·rw [ze5 (by rw [e];decide)];exact h
 ·rw [ze5 (by rw [e];decide)];exact h
 ·rw [zgk e];exact h.up h2
theorem Inv.get {s:St} (h:Inv s) (n:Int):Inv (getS s n):=by
 rcases zhy s n with ⟨e,_⟩ | ⟨e,_⟩ | ⟨e,_⟩ | ⟨e,h0,h1,h2⟩
 ·rw [zew (by rw [e];decide)];exact h
 ·rw [zew (by rw [e];decide)];exact h
 ·rw [zew (by rw [e];decide)];exact h
 ·rw [zl3 e];exact h.got h0 h1 h2
structure Four (w:World) (sb:Nat) (s:St):Prop where
 c0:w.cell? ⟨sb,0,none⟩=some (.int .i64 s.win)
 c1:w.cell? ⟨sb,1,none⟩=some (.int .i64 s.lim)
 c2:w.cell? ⟨sb,2,none⟩=some (.int .i64 s.came)
 c3:w.cell? ⟨sb,3,none⟩=some (.int .i64 s.read)
 f1:w.frozen? ⟨sb,1,none⟩=false
 f2:w.frozen? ⟨sb,2,none⟩=false
 f3:w.frozen? ⟨sb,3,none⟩=false
 f0:w.frozen? ⟨sb,0,none⟩=false
section
variable {w w' : World} {B sb : Nat} {s : St}
theorem Four.lt (h:Four w sb s):sb<w.heap.size:=World.block_lt_of_cell? w _ h.c0
theorem Four.off {K:Nat→Prop} (h:Four w sb s) (ho:Off K w w') (hK:¬K sb):Four w' sb s:=
 ⟨ho.cell h.c0 hK,ho.cell h.c1 hK,ho.cell h.c2 hK,ho.cell h.c3 hK,(ho.frozen (p:=⟨sb,1,none⟩) h.lt hK).trans h.f1,(ho.frozen (p:=⟨sb,2,none⟩) h.lt hK).trans h.f2,(ho.frozen (p:=⟨sb,3,none⟩) h.lt hK).trans h.f3,(ho.frozen (p:=⟨sb,0,none⟩) h.lt hK).trans h.f0⟩
theorem zak {a b:Addr} {u v:Value} (h:w.cell? a=some v) (e:a.off≠b.off):(w.setCell b u).cell? a=some v:=by
 rw [World.cell?_setCell_other _ _ _ _ (by intro e';subst e';exact e rfl)];exact h
theorem Four.set2 (h:Four w sb s) (u:Int):Four (w.setCell ⟨sb,2,none⟩ (.int .i64 u)) sb ⟨s.win,s.lim,u,s.read⟩:=
 ⟨zak h.c0 (by simp),zak h.c1 (by simp),World.cell?_setCell_same _ _ _ h.c2,zak h.c3 (by simp),by simpa using h.f1,by simpa using h.f2,by simpa using h.f3,by simpa using h.f0⟩
theorem Four.set1 (h:Four w sb s) (u:Int):Four (w.setCell ⟨sb,1,none⟩ (.int .i64 u)) sb ⟨s.win,u,s.came,s.read⟩:=
 ⟨zak h.c0 (by simp),World.cell?_setCell_same _ _ _ h.c1,zak h.c2 (by simp),zak h.c3 (by simp),by simpa using h.f1,by simpa using h.f2,by simpa using h.f3,by simpa using h.f0⟩
theorem Four.set3 (h:Four w sb s) (u:Int):Four (w.setCell ⟨sb,3,none⟩ (.int .i64 u)) sb ⟨s.win,s.lim,s.came,u⟩:=
 ⟨zak h.c0 (by simp),zak h.c1 (by simp),zak h.c2 (by simp),World.cell?_setCell_same _ _ _ h.c3,by simpa using h.f1,by simpa using h.f2,by simpa using h.f3,by simpa using h.f0⟩
theorem Four.new (w:World) (n:Int) (t:TypeId):Four (w.alloc (.cells #[.int .i64 n,.int .i64 n,.int .i64 0,.int .i64 0] t)) w.heap.size (newS n):=by
 constructor<;>simp [newS]
structure Obj (w:World) (B sb:Nat) (s:St):Prop where
 inv:Inv s
 four:Four w sb s
 hs:B≤sb
theorem Obj.off {K:Nat→Prop} (h:Obj w B sb s) (ho:Off K w w') (hK:¬K sb):Obj w' B sb s:=⟨h.inv,h.four.off ho hK,h.hs⟩
theorem Obj.below (h:Obj w B sb s) (hb:Below w.heap.size w w'):Obj w' B sb s:=h.off (Off.of_below (K:=fun _=>False) hb) id
theorem Obj.lt (h:Obj w B sb s):sb<w.heap.size:=h.four.lt
end
def Turned (w w':World) (B sb:Nat) (s:St):Prop:=Obj w' B sb s∧Off (fun k=>k=sb) w w'
theorem Turned.same {w:World} {B sb:Nat} {s:St} (h:Obj w B sb s):Turned w w B sb s:=⟨h,Off.refl _ _⟩
theorem Turned.drewN {w:World} {B sb:Nat} {s:St} (h:Obj w B sb s) (m:Nat):Turned w (w.drewN m) B sb s:=⟨h.below (below_drewN (Below.refl _ _) m),Off.of_below (below_drewN (Below.refl _ _) m)⟩
theorem Turned.trans {w w1 w2:World} {B sb:Nat} {s s':St} (h:Turned w w1 B sb s) (k:Turned w1 w2 B sb s'):Turned w w2 B sb s':=⟨k.1,h.2.trans k.2⟩
theorem wrap_small (n:Int) (h0: -10000000000≤n) (h1:n≤10000000000):IntKind.i64.wrap n=n:=by simp [IntKind.wrap,IntKind.bits,IntKind.signed];omega
theorem Turned.took {w:World} {B sb:Nat} {s:St} (h:Obj w B sb s) {u v:Int} (hu:u≤s.lim) (hv:v=if s.came<u then u else s.came):Turned w (w.setCell ⟨sb,2,none⟩ (.int .i64 v)) B sb (upS s u):=
 ⟨⟨h.inv.up hu,by rw [hv];exact h.four.set2 _,h.hs⟩,(Off.refl _ _).setCell (K:=fun k=>k=sb) (a:=⟨sb,2,none⟩) rfl _⟩
theorem Turned.kept {w:World} {B sb:Nat} {s:St} (h:Obj w B sb s) {u:Int} (hu:u≤s.came):Turned w w B sb (upS s u):=by
 have e:upS s u=s:=by
  have:¬s.came<u:=by omega
  cases s
  simp only [upS,this,if_false]
 rw [e];exact Turned.same h
theorem Turned.got {w:World} {B sb:Nat} {s:St} (h:Obj w B sb s) {n a b:Int} (h0:0≤n) (h1:n≤s.came-s.read) (h2:numB (zcn s n)=true) (ea:a=s.read+n) (eb:b=zcn s n):
  Turned w ((w.setCell ⟨sb,3,none⟩ (.int .i64 a)).setCell ⟨sb,1,none⟩ (.int .i64 b)) B sb ⟨s.win,zcn s n,s.came,s.read+n⟩:=
 ⟨⟨h.inv.got h0 h1 h2,by rw [ea,eb];exact (h.four.set3 _).set1 _,h.hs⟩,((Off.refl _ _).setCell (K:=fun k=>k=sb) (a:=⟨sb,3,none⟩) rfl _).setCell (a:=⟨sb,1,none⟩) rfl _⟩
theorem zfz (n:Int) (w:World):Calls Tryz.prog 70 #[.int .i64 n] w fun e w'=>e= .returned (.bool (winB n))∧w'=w:=by
 by_cases h1:1≤n
 ·by_cases h2:n≤1000
  ·go_enter Tryz.func70,Tryz.ntmps70
   go_wp2
   go_ret
   exact ⟨by simp [winB]<;>omega,rfl⟩
  ·go_enter Tryz.func70,Tryz.ntmps70
   go_wp2
   go_ret
   exact ⟨by simp [winB]<;>omega,rfl⟩
 ·go_enter Tryz.func70,Tryz.ntmps70
  go_wp2
  go_ret
  exact ⟨by simp [winB]<;>omega,rfl⟩
theorem za6 (n:Int) (w:World):Calls Tryz.prog 88 #[.int .i64 n] w fun e w'=>e= .returned (.bool (numB n))∧w'=w:=by
 by_cases h1:0≤n
 ·by_cases h2:n≤1073741823
  ·go_enter Tryz.func88,Tryz.ntmps88
   go_wp2
   go_ret
   exact ⟨by simp [numB]<;>omega,rfl⟩
  ·go_enter Tryz.func88,Tryz.ntmps88
   go_wp2
   go_ret
   exact ⟨by simp [numB]<;>omega,rfl⟩
 ·go_enter Tryz.func88,Tryz.ntmps88
  go_wp2
  go_ret
  exact ⟨by simp [numB]<;>omega,rfl⟩
theorem zw0 (n:Int) (w:World) (h:winB n=false):Calls Tryz.prog 41 #[.int .i64 n] w fun e w'=>e= .returned (.tuple #[.pointer none,.iface 78 (.int .i64 1)])∧w'=w:=by
 go_enter Tryz.func41,Tryz.ntmps41
 go_wp2_with (go_at_call 70;refine (zfz n _).mono ?_;rintro e w1 ⟨rfl,rfl⟩;rw [h])
 go_ret2
 exact ⟨rfl,rfl⟩
theorem zl2 (n:Int) (w:World) (h:winB n=true):Calls Tryz.prog 41 #[.int .i64 n] w fun e w'=>e= .returned (.tuple #[.pointer (some ⟨w.heap.size,0,none⟩),.nilIface])∧Obj w' w.heap.size w.heap.size (newS n)∧Below w.heap.size w w':=by
 have hO:Obj (w.alloc (.cells #[.int .i64 n,.int .i64 n,.int .i64 0,.int .i64 0] 67)) w.heap.size w.heap.size (newS n):=⟨Inv.start h,Four.new w n _,Nat.le_refl _⟩
 go_enter Tryz.func41,Tryz.ntmps41
 go_wp2_with (go_at_call 70;refine (zfz n _).mono ?_;rintro e w1 ⟨rfl,rfl⟩;rw [h])
 go_ret2
 exact ⟨rfl,hO,(Below.refl _ _).alloc (Nat.le_refl _) _⟩
theorem zso {w:World} {B sb:Nat} {s:St} (h:Obj w B sb s):Calls Tryz.prog 86 #[.pointer (some ⟨sb,0,none⟩)] w fun e w'=>e= .returned (.int .i64 (s.came-s.read))∧∃m,w'=w.drewN m:=by
 obtain ⟨win,lim,came,read⟩:=s
 have c0:=h.four.c0
 have c1:=h.four.c1
 have c2:=h.four.c2
 have c3:=h.four.c3
 have f1:=h.four.f1
 have f2:=h.four.f2
 have f3:=h.four.f3
 obtain ⟨w1,w2,l1,l2,a1,a2,r1,r2⟩:=h.inv
 simp only at c0 c1 c2 c3 w1 w2 l1 l2 a1 a2 r1 r2 ⊢
 have u1:=wrap_small (came-read) (by omega) (by omega)
 go_enter Tryz.func86,Tryz.ntmps86
 go_wp2_with fail
 go_quiet (fail)
 go_wp2_with fail
 go_ret
 exact ⟨rfl,_,rfl⟩
theorem zhv {w:World} {B sb:Nat} {s:St} (h:Obj w B sb s):Calls Tryz.prog 86 #[.pointer (some ⟨sb,0,none⟩)] w fun e w'=>e= .returned (.int .i64 (s.came-s.read))∧Turned w w' B sb s:=
 (zso h).mono fun e w' ⟨h1,m,h2⟩=>⟨h1,by rw [h2];exact Turned.drewN h m⟩
theorem zDw {w:World} {B sb:Nat} {win lim came read:Int} (h:Obj w B sb ⟨win,lim,came,read⟩) (r:Int) (h0:0≤r) (h1:r≤1073741823) (h2:win/2<r-(lim-win)):Calls Tryz.prog 87 #[.pointer (some ⟨sb,0,none⟩),.int .i64 r] w fun e w'=>e= .returned (.int .i64 (r+win))∧Turned w w' B sb ⟨win,lim,came,read⟩:=by
 have c0:=h.four.c0
 have c1:=h.four.c1
 have c2:=h.four.c2
 have c3:=h.four.c3
 have f1:=h.four.f1
 have f2:=h.four.f2
 have f3:=h.four.f3
 obtain ⟨w1,w2,l1,l2,a1,a2,r1,r2⟩:=h.inv
 simp only at c0 c1 c2 c3 w1 w2 l1 l2 a1 a2 r1 r2
 have u1:=wrap_small (lim-win) (by omega) (by omega)
 go_enter Tryz.func87,Tryz.ntmps87
 go_wp2_with fail
 go_quiet (fail)
 go_wp2_with fail
 go_ret
 exact ⟨rfl,Turned.drewN h _⟩
theorem zIy {w:World} {B sb:Nat} {win lim came read:Int} (h:Obj w B sb ⟨win,lim,came,read⟩) (r:Int) (h0:0≤r) (h1:r≤1073741823) (h2:r-(lim-win)≤win/2):Calls Tryz.prog 87 #[.pointer (some ⟨sb,0,none⟩),.int .i64 r] w fun e w'=>e= .returned (.int .i64 (lim))∧Turned w w' B sb ⟨win,lim,came,read⟩:=by
 have c0:=h.four.c0
 have c1:=h.four.c1
 have c2:=h.four.c2
 have c3:=h.four.c3
 have f1:=h.four.f1
 have f2:=h.four.f2
 have f3:=h.four.f3
 obtain ⟨w1,w2,l1,l2,a1,a2,r1,r2⟩:=h.inv
 simp only at c0 c1 c2 c3 w1 w2 l1 l2 a1 a2 r1 r2
 have u1:=wrap_small (lim-win) (by omega) (by omega)
 go_enter Tryz.func87,Tryz.ntmps87
 go_wp2_with fail
 go_quiet (fail)
 go_wp2_with fail
 go_ret
 exact ⟨rfl,Turned.drewN h _⟩
theorem zr5 {w:World} {B sb:Nat} {s:St} (h:Obj w B sb s) {n:Int} (h0:0≤n) (h1:n≤s.came-s.read):Calls Tryz.prog 87 #[.pointer (some ⟨sb,0,none⟩),.int .i64 (s.read+n)] w fun e w'=>e= .returned (.int .i64 (zcn s n))∧Turned w w' B sb s:=by
 obtain ⟨win,lim,came,read⟩:=s
 obtain ⟨w1,w2,l1,l2,a1,a2,r1,r2⟩:=h.inv
 simp only at w1 w2 l1 l2 a1 a2 r1 r2 h1 ⊢
 by_cases h2:win/2<read+n-(lim-win)
 ·rw [zef (by simpa using h2)];exact zDw h _ (by omega) (by omega) h2
 ·rw [zfo (by simp only;omega)];exact zIy h _ (by omega) (by omega) (by omega)
theorem zua {w:World} {B sb:Nat} {win lim came read:Int} (h:Obj w B sb ⟨win,lim,came,read⟩) (n:Int) (h0:n<0):Calls Tryz.prog 58 #[.pointer (some ⟨sb,0,none⟩),.int .i64 n] w fun e w'=>e= .returned (.tuple #[.int .i64 0,.iface 78 (.int .i64 1)])∧Turned w w' B sb ⟨win,lim,came,read⟩:=by
 obtain ⟨w1,w2,l1,l2,a1,a2,r1,r2⟩:=h.inv
 simp only at w1 w2 l1 l2 a1 a2 r1 r2
 go_enter Tryz.func58,Tryz.ntmps58
 go_wp2_with fail
 go_ret2
 exact ⟨rfl,Turned.same h⟩
theorem zut {w:World} {B sb:Nat} {win lim came read:Int} (h:Obj w B sb ⟨win,lim,came,read⟩) (n:Int) (h0:0≤n) (h2:came-read<n):Calls Tryz.prog 58 #[.pointer (some ⟨sb,0,none⟩),.int .i64 n] w fun e w'=>e= .returned (.tuple #[.int .i64 0,.iface 78 (.int .i64 8)])∧Turned w w' B sb ⟨win,lim,came,read⟩:=by
 obtain ⟨w1,w2,l1,l2,a1,a2,r1,r2⟩:=h.inv
 simp only at w1 w2 l1 l2 a1 a2 r1 r2
 go_enter Tryz.func58,Tryz.ntmps58
 go_wp2_with fail
 refine (zhv h).mono ?_
 rintro e wa ⟨rfl,ta⟩
 have k3:=ta.1.four.c3
 simp only at k3 ⊢
 go_wp2_with fail
 go_ret2
 exact ⟨rfl,ta⟩
theorem zvh {w:World} {B sb:Nat} {win lim came read:Int} (h:Obj w B sb ⟨win,lim,came,read⟩) (n:Int) (h0:0≤n) (h2:n≤came-read) (l:Int) (el:zcn ⟨win,lim,came,read⟩ n=l) (hb:numB l=false):Calls Tryz.prog 58 #[.pointer (some ⟨sb,0,none⟩),.int .i64 n] w fun e w'=>e= .returned (.tuple #[.int .i64 0,.iface 78 (.int .i64 4)])∧Turned w w' B sb ⟨win,lim,came,read⟩:=by
 obtain ⟨w1,w2,l1,l2,a1,a2,r1,r2⟩:=h.inv
 simp only at w1 w2 l1 l2 a1 a2 r1 r2
 go_enter Tryz.func58,Tryz.ntmps58
 go_wp2_with fail
 refine (zhv h).mono ?_
 rintro e wa ⟨rfl,ta⟩
 have k3:=ta.1.four.c3
 simp only at k3 ⊢
 go_wp2_with fail
 have hat:=zr5 ta.1 h0 h2
 rw [el] at hat
 have HE:Hid (zcn ⟨win,lim,came,read⟩ n=l):=el
 clear el
 simp only at hat
 refine hat.mono ?_
 rintro e wb ⟨rfl,tb⟩
 clear hat k3
 have tb:=ta.trans tb
 clear ta
 have k1:=tb.1.four.c1
 have k3:=tb.1.four.c3
 have g1:=tb.1.four.f1
 have g3:=tb.1.four.f3
 simp only at k1 k3
 go_wp2_with (go_at_call 88;refine (za6 l _).mono ?_;rintro e wc ⟨rfl,rfl⟩;rw [hb])
 go_ret2
 exact ⟨rfl,tb⟩
theorem zBl {w:World} {B sb:Nat} {win lim came read:Int} (h:Obj w B sb ⟨win,lim,came,read⟩) (n:Int) (h0:0≤n) (h2:n≤came-read) (l:Int) (el:zcn ⟨win,lim,came,read⟩ n=l) (hb:numB l=true):Calls Tryz.prog 58 #[.pointer (some ⟨sb,0,none⟩),.int .i64 n] w fun e w'=>e= .returned (.tuple #[.int .i64 l,.nilIface])∧Turned w w' B sb ⟨win,zcn ⟨win,lim,came,read⟩ n,came,read+n⟩:=by
 obtain ⟨w1,w2,l1,l2,a1,a2,r1,r2⟩:=h.inv
 simp only at w1 w2 l1 l2 a1 a2 r1 r2
 go_enter Tryz.func58,Tryz.ntmps58
 go_wp2_with fail
 refine (zhv h).mono ?_
 rintro e wa ⟨rfl,ta⟩
 have k3:=ta.1.four.c3
 simp only at k3 ⊢
 go_wp2_with fail
 have hat:=zr5 ta.1 h0 h2
 rw [el] at hat
 have HE:Hid (zcn ⟨win,lim,came,read⟩ n=l):=el
 clear el
 simp only at hat
 refine hat.mono ?_
 rintro e wb ⟨rfl,tb⟩
 clear hat k3
 have tb:=ta.trans tb
 clear ta
 have k1:=tb.1.four.c1
 have k3:=tb.1.four.c3
 have g1:=tb.1.four.f1
 have g3:=tb.1.four.f3
 simp only at k1 k3
 go_wp2_with (go_at_call 88;refine (za6 l _).mono ?_;rintro e wc ⟨rfl,rfl⟩;rw [hb])
 go_ret2
 exact ⟨rfl,tb.trans (Turned.got tb.1 h0 h2 (by rw [HE.out];exact hb) rfl HE.out.symm)⟩
theorem zek {w:World} {B sb:Nat} {s:St} (h:Obj w B sb s) (n:Int):Calls Tryz.prog 58 #[.pointer (some ⟨sb,0,none⟩),.int .i64 n] w fun e w'=>e= .returned (.tuple #[.int .i64 (getN s n),errV (getF s n)])∧Turned w w' B sb (getS s n):=by
 obtain ⟨win,lim,came,read⟩:=s
 rcases zhy ⟨win,lim,came,read⟩ n with ⟨e,h0⟩ | ⟨e,h0,h1⟩ | ⟨e,h0,h1,h2⟩ | ⟨e,h0,h1,h2⟩
 ·rw [zew (by rw [e];decide),zqj (by rw [e];decide),e,zbh (by decide)];exact zua h n h0
 ·rw [zew (by rw [e];decide),zqj (by rw [e];decide),e,zbh (by decide)];exact zut h n h0 h1
 ·rw [zew (by rw [e];decide),zqj (by rw [e];decide),e,zbh (by decide)];exact zvh h n h0 h1 _ rfl h2
 ·rw [zl3 e,zBr e,e,zdk];exact zBl h n h0 h1 _ rfl h2
end Go.Proofs.YtdnehibcpkjafaaGreatDoor.Cx
namespace Go.Proofs.YtdnehibcpkjafaaGreatDoor.Cy
open Go.RowKit Go.Lib Go.Sort
open Cx (St Inv zcv zba upS)
structure Obj (w:World) (sb:Nat) (s:St):Prop where
 inv:Inv s
 c0:w.cell? ⟨sb,246,none⟩=some (.int .i64 s.win)
 c1:w.cell? ⟨sb,247,none⟩=some (.int .i64 s.lim)
 c2:w.cell? ⟨sb,248,none⟩=some (.int .i64 s.came)
 c3:w.cell? ⟨sb,249,none⟩=some (.int .i64 s.read)
 f2:w.frozen? ⟨sb,248,none⟩=false
structure Turned (w w':World) (sb:Nat) (s:St):Prop where
 obj:Obj w' sb s
 off:Off (fun k=>k=sb) w w'
 rest:∀i,i<246∨250≤i→w'.cell? ⟨sb,i,none⟩=w.cell? ⟨sb,i,none⟩
 fz:∀i,w'.frozen? ⟨sb,i,none⟩=w.frozen? ⟨sb,i,none⟩
theorem Turned.same {w:World} {sb:Nat} {s:St} (h:Obj w sb s):Turned w w sb s:=⟨h,Off.refl _ _,fun _ _=>rfl,fun _=>rfl⟩
theorem Turned.took {w:World} {sb:Nat} {s:St} (h:Obj w sb s) {u v:Int} (hu:u≤s.lim) (hv:v=if s.came<u then u else s.came):Turned w (w.setCell ⟨sb,248,none⟩ (.int .i64 v)) sb (upS s u):=by
 refine ⟨⟨h.inv.up hu,Cx.zak h.c0 (by simp),Cx.zak h.c1 (by simp),by rw [hv];exact World.cell?_setCell_same _ _ _ h.c2,Cx.zak h.c3 (by simp),by simpa using h.f2⟩,(Off.refl _ _).setCell (K:=fun k=>k=sb) (a:=⟨sb,248,none⟩) rfl _,fun i hi=> ?_,fun i=>by simp⟩
 exact World.cell?_setCell_other _ _ _ _ (fun e=>by injection e;omega)
theorem zt4 {w:World} {sb:Nat} {win lim came read:Int} (h:Obj w sb ⟨win,lim,came,read⟩) (u:Int) (hb:Cx.numB u=false):Calls Tryz.prog 110 #[.pointer (some ⟨sb,246,none⟩),.int .i64 u] w fun e w'=>e= .returned (.iface 78 (.int .i64 1))∧Turned w w' sb ⟨win,lim,came,read⟩:=by
 have c1:=h.c1
 have c2:=h.c2
 have f2:=h.f2
 have l2:=h.inv.l2
 simp only at c1 c2 l2
 go_enter Tryz.func110,Tryz.ntmps110
 go_wp2_with (go_at_call 88;refine (Cx.za6 u _).mono ?_;rintro e w1 ⟨rfl,rfl⟩;rw [hb])
 go_ret
 exact ⟨rfl,Turned.same h⟩
theorem zv5 {w:World} {sb:Nat} {win lim came read:Int} (h:Obj w sb ⟨win,lim,came,read⟩) (u:Int) (hb:Cx.numB u=true) (h2:lim<u):Calls Tryz.prog 110 #[.pointer (some ⟨sb,246,none⟩),.int .i64 u] w fun e w'=>e= .returned (.iface 78 (.int .i64 8))∧Turned w w' sb ⟨win,lim,came,read⟩:=by
 have c1:=h.c1
 have c2:=h.c2
 have f2:=h.f2
 have l2:=h.inv.l2
 simp only at c1 c2 l2
 go_enter Tryz.func110,Tryz.ntmps110
 go_wp2_with (go_at_call 88;refine (Cx.za6 u _).mono ?_;rintro e w1 ⟨rfl,rfl⟩;rw [hb])
 go_ret
 exact ⟨rfl,Turned.same h⟩
theorem zvi {w:World} {sb:Nat} {win lim came read:Int} (h:Obj w sb ⟨win,lim,came,read⟩) (u:Int) (hb:Cx.numB u=true) (h2:u≤lim) (h3:came<u):Calls Tryz.prog 110 #[.pointer (some ⟨sb,246,none⟩),.int .i64 u] w fun e w'=>e= .returned .nilIface∧Turned w w' sb (upS ⟨win,lim,came,read⟩ u):=by
 have c1:=h.c1
 have c2:=h.c2
 have f2:=h.f2
 have l2:=h.inv.l2
 simp only at c1 c2 l2
 go_enter Tryz.func110,Tryz.ntmps110
 go_wp2_with (go_at_call 88;refine (Cx.za6 u _).mono ?_;rintro e w1 ⟨rfl,rfl⟩;rw [hb])
 go_ret
 exact ⟨rfl,Turned.took h h2 (if_pos h3).symm⟩
theorem zv1 {w:World} {sb:Nat} {win lim came read:Int} (h:Obj w sb ⟨win,lim,came,read⟩) (u:Int) (hb:Cx.numB u=true) (h2:u≤lim) (h3:u≤came):Calls Tryz.prog 110 #[.pointer (some ⟨sb,246,none⟩),.int .i64 u] w fun e w'=>e= .returned .nilIface∧Turned w w' sb (upS ⟨win,lim,came,read⟩ u):=by
 have c1:=h.c1
 have c2:=h.c2
 have f2:=h.f2
 have l2:=h.inv.l2
 simp only at c1 c2 l2
 go_enter Tryz.func110,Tryz.ntmps110
 go_wp2_with (go_at_call 88;refine (Cx.za6 u _).mono ?_;rintro e w1 ⟨rfl,rfl⟩;rw [hb])
 go_ret
 exact ⟨rfl,Turned.took h h2 (if_neg (by simp only;omega)).symm⟩
theorem zbc {w:World} {sb:Nat} {s:St} (h:Obj w sb s) (u:Int):Calls Tryz.prog 110 #[.pointer (some ⟨sb,246,none⟩),.int .i64 u] w fun e w'=>e= .returned (errV (zcv s u))∧Turned w w' sb (zba s u):=by
 obtain ⟨win,lim,came,read⟩:=s
 rcases Cx.zf1 ⟨win,lim,came,read⟩ u with ⟨e,hb⟩ | ⟨e,hb,h2⟩ | ⟨e,hb,h2⟩
 ·rw [Cx.ze5 (by rw [e];decide),e,zbh (by decide)];exact zt4 h u hb
 ·rw [Cx.ze5 (by rw [e];decide),e,zbh (by decide)];exact zv5 h u hb h2
 ·rw [Cx.zgk e,e,zdk]
  by_cases h3:came<u
  ·exact zvi h u hb h2 h3
  ·exact zv1 h u hb h2 (by omega)
end Go.Proofs.YtdnehibcpkjafaaGreatDoor.Cy
namespace Go.Proofs.YtdnehibcpkjafaaGreatDoor.Cx
open Go.RowKit Go.Lib Go.Sort
theorem za2 (n:Int) (w:World):Calls Tryz.prog 62 #[.int .i64 n] w fun e w'=>e= .returned (.bool (numB n))∧w'=w:=(U.rmay n w).mono fun e w' h=>⟨h.1,h.2⟩
theorem zph {w:World} {B sb:Nat} {win lim came read:Int} (h:Obj w B sb ⟨win,lim,came,read⟩) (n:Int) (hb:numB n=false):Calls Tryz.prog 67 #[.pointer (some ⟨sb,0,none⟩),.int .i64 n] w fun e w'=>e= .returned (.int .i64 1)∧Turned w w' B sb ⟨win,lim,came,read⟩:=by
 have c0:=h.four.c0
 have c1:=h.four.c1
 have c2:=h.four.c2
 have c3:=h.four.c3
 have f1:=h.four.f1
 have f2:=h.four.f2
 have f3:=h.four.f3
 obtain ⟨w1,w2,l1,l2,a1,a2,r1,r2⟩:=h.inv
 simp only at c0 c1 c2 c3 w1 w2 l1 l2 a1 a2 r1 r2
 go_enter Tryz.func67,Tryz.ntmps67
 go_wp2_with (go_at_call 62;refine (za2 n _).mono ?_;rintro e wx ⟨rfl,rfl⟩;rw [hb])
 go_ret
 exact ⟨rfl,Turned.same h⟩
theorem ztl {w:World} {B sb:Nat} {win lim came read:Int} (h:Obj w B sb ⟨win,lim,came,read⟩) (n:Int) (hb:numB n=true) (h2:lim<n):Calls Tryz.prog 67 #[.pointer (some ⟨sb,0,none⟩),.int .i64 n] w fun e w'=>e= .returned (.int .i64 8)∧Turned w w' B sb ⟨win,lim,came,read⟩:=by
 have c0:=h.four.c0
 have c1:=h.four.c1
 have c2:=h.four.c2
 have c3:=h.four.c3
 have f1:=h.four.f1
 have f2:=h.four.f2
 have f3:=h.four.f3
 obtain ⟨w1,w2,l1,l2,a1,a2,r1,r2⟩:=h.inv
 simp only at c0 c1 c2 c3 w1 w2 l1 l2 a1 a2 r1 r2
 go_enter Tryz.func67,Tryz.ntmps67
 go_wp2_with (go_at_call 62;refine (za2 n _).mono ?_;rintro e wx ⟨rfl,rfl⟩;rw [hb])
 go_ret
 exact ⟨rfl,Turned.same h⟩
theorem ztg {w:World} {B sb:Nat} {win lim came read:Int} (h:Obj w B sb ⟨win,lim,came,read⟩) (n:Int) (hb:numB n=true) (h2:n≤lim) (h3:came<n):Calls Tryz.prog 67 #[.pointer (some ⟨sb,0,none⟩),.int .i64 n] w fun e w'=>e= .returned (.int .i64 0)∧Turned w w' B sb (upS ⟨win,lim,came,read⟩ n):=by
 have c0:=h.four.c0
 have c1:=h.four.c1
 have c2:=h.four.c2
 have c3:=h.four.c3
 have f1:=h.four.f1
 have f2:=h.four.f2
 have f3:=h.four.f3
 obtain ⟨w1,w2,l1,l2,a1,a2,r1,r2⟩:=h.inv
 simp only at c0 c1 c2 c3 w1 w2 l1 l2 a1 a2 r1 r2
 go_enter Tryz.func67,Tryz.ntmps67
 go_wp2_with (go_at_call 62;refine (za2 n _).mono ?_;rintro e wx ⟨rfl,rfl⟩;rw [hb])
 go_ret
 exact ⟨rfl,Turned.took h h2 (if_pos h3).symm⟩
theorem zsz {w:World} {B sb:Nat} {win lim came read:Int} (h:Obj w B sb ⟨win,lim,came,read⟩) (n:Int) (hb:numB n=true) (h2:n≤lim) (h3:n≤came):Calls Tryz.prog 67 #[.pointer (some ⟨sb,0,none⟩),.int .i64 n] w fun e w'=>e= .returned (.int .i64 0)∧Turned w w' B sb (upS ⟨win,lim,came,read⟩ n):=by
 have c0:=h.four.c0
 have c1:=h.four.c1
 have c2:=h.four.c2
 have c3:=h.four.c3
 have f1:=h.four.f1
 have f2:=h.four.f2
 have f3:=h.four.f3
 obtain ⟨w1,w2,l1,l2,a1,a2,r1,r2⟩:=h.inv
 simp only at c0 c1 c2 c3 w1 w2 l1 l2 a1 a2 r1 r2
 go_enter Tryz.func67,Tryz.ntmps67
 go_wp2_with (go_at_call 62;refine (za2 n _).mono ?_;rintro e wx ⟨rfl,rfl⟩;rw [hb])
 go_ret
 exact ⟨rfl,Turned.kept h h3⟩
theorem zf6 {w:World} {B sb:Nat} {s:St} (h:Obj w B sb s) (u:Int):Calls Tryz.prog 67 #[.pointer (some ⟨sb,0,none⟩),.int .i64 u] w fun e w'=>e= .returned (.int .i64 (zcv s u))∧Turned w w' B sb (zba s u):=by
 obtain ⟨win,lim,came,read⟩:=s
 rcases zf1 ⟨win,lim,came,read⟩ u with ⟨e,hb⟩ | ⟨e,hb,h2⟩ | ⟨e,hb,h2⟩
 ·rw [ze5 (by rw [e];decide),e];exact zph h u hb
 ·rw [ze5 (by rw [e];decide),e];exact ztl h u hb h2
 ·rw [zgk e,e]
  by_cases h3:came<u
  ·exact ztg h u hb h2 h3
  ·exact zsz h u hb h2 (by omega)
theorem zsy {w:World} {B sb:Nat} {win lim came read:Int} (h:Obj w B sb ⟨win,lim,came,read⟩) (n:Int) (h0:n<0):Calls Tryz.prog 38 #[.pointer (some ⟨sb,0,none⟩),.int .i64 n] w fun e w'=>e= .returned (.int .i64 1)∧Turned w w' B sb ⟨win,lim,came,read⟩:=by
 have c0:=h.four.c0
 have c1:=h.four.c1
 have c2:=h.four.c2
 have c3:=h.four.c3
 have f1:=h.four.f1
 have f2:=h.four.f2
 have f3:=h.four.f3
 obtain ⟨w1,w2,l1,l2,a1,a2,r1,r2⟩:=h.inv
 simp only at c0 c1 c2 c3 w1 w2 l1 l2 a1 a2 r1 r2
 go_enter Tryz.func38,Tryz.ntmps38
 go_wp2_with fail
 go_ret
 exact ⟨rfl,Turned.same h⟩
theorem zuw {w:World} {B sb:Nat} {win lim came read:Int} (h:Obj w B sb ⟨win,lim,came,read⟩) (n:Int) (h0:0≤n) (h2:came-read<n):Calls Tryz.prog 38 #[.pointer (some ⟨sb,0,none⟩),.int .i64 n] w fun e w'=>e= .returned (.int .i64 8)∧Turned w w' B sb ⟨win,lim,came,read⟩:=by
 have c0:=h.four.c0
 have c1:=h.four.c1
 have c2:=h.four.c2
 have c3:=h.four.c3
 have f1:=h.four.f1
 have f2:=h.four.f2
 have f3:=h.four.f3
 obtain ⟨w1,w2,l1,l2,a1,a2,r1,r2⟩:=h.inv
 simp only at c0 c1 c2 c3 w1 w2 l1 l2 a1 a2 r1 r2
 go_enter Tryz.func38,Tryz.ntmps38
 go_wp2_with fail
 go_quiet (fail)
 go_wp2_with fail
 go_ret
 exact ⟨rfl,Turned.drewN h _⟩
theorem zvl {w:World} {B sb:Nat} {win lim came read:Int} (h:Obj w B sb ⟨win,lim,came,read⟩) (n:Int) (h0:0≤n) (h2:n≤came-read) (h3:win/2<read+n-(lim-win)) (hb:numB (read+n+win)=false):Calls Tryz.prog 38 #[.pointer (some ⟨sb,0,none⟩),.int .i64 n] w fun e w'=>e= .returned (.int .i64 4)∧Turned w w' B sb ⟨win,lim,came,read⟩:=by
 have c0:=h.four.c0
 have c1:=h.four.c1
 have c2:=h.four.c2
 have c3:=h.four.c3
 have f1:=h.four.f1
 have f2:=h.four.f2
 have f3:=h.four.f3
 obtain ⟨w1,w2,l1,l2,a1,a2,r1,r2⟩:=h.inv
 simp only at c0 c1 c2 c3 w1 w2 l1 l2 a1 a2 r1 r2
 go_enter Tryz.func38,Tryz.ntmps38
 go_wp2_with fail
 go_quiet (fail)
 go_wp2_with fail
 go_quiet (fail)
 go_wp2_with fail
 go_quiet (fail)
 go_wp2_with (go_at_call 62;refine (za2 (read+n+win) _).mono ?_;rintro e wx ⟨rfl,rfl⟩;rw [hb])
 go_ret
 exact ⟨rfl,Turned.drewN h _⟩
theorem zu4 {w:World} {B sb:Nat} {win lim came read:Int} (h:Obj w B sb ⟨win,lim,came,read⟩) (n:Int) (h0:0≤n) (h2:n≤came-read) (h3:win/2<read+n-(lim-win)) (hb:numB (read+n+win)=true):Calls Tryz.prog 38 #[.pointer (some ⟨sb,0,none⟩),.int .i64 n] w fun e w'=>e= .returned (.int .i64 0)∧Turned w w' B sb ⟨win,zcn ⟨win,lim,came,read⟩ n,came,read+n⟩:=by
 have c0:=h.four.c0
 have c1:=h.four.c1
 have c2:=h.four.c2
 have c3:=h.four.c3
 have f1:=h.four.f1
 have f2:=h.four.f2
 have f3:=h.four.f3
 obtain ⟨w1,w2,l1,l2,a1,a2,r1,r2⟩:=h.inv
 simp only at c0 c1 c2 c3 w1 w2 l1 l2 a1 a2 r1 r2
 go_enter Tryz.func38,Tryz.ntmps38
 go_wp2_with fail
 go_quiet (fail)
 go_wp2_with fail
 go_quiet (fail)
 go_wp2_with fail
 go_quiet (fail)
 go_wp2_with (go_at_call 62;refine (za2 (read+n+win) _).mono ?_;rintro e wx ⟨rfl,rfl⟩;rw [hb])
 go_ret
 exact ⟨rfl,(Turned.drewN h _).trans (Turned.got (Turned.drewN h _).1 h0 h2 (by rw [zef h3];exact hb) rfl (zef (s:=⟨win,lim,came,read⟩) h3).symm)⟩
theorem zw9 {w:World} {B sb:Nat} {win lim came read:Int} (h:Obj w B sb ⟨win,lim,came,read⟩) (n:Int) (h0:0≤n) (h2:n≤came-read) (h3:read+n-(lim-win)≤win/2) (hb:numB lim=true):Calls Tryz.prog 38 #[.pointer (some ⟨sb,0,none⟩),.int .i64 n] w fun e w'=>e= .returned (.int .i64 0)∧Turned w w' B sb ⟨win,zcn ⟨win,lim,came,read⟩ n,came,read+n⟩:=by
 have c0:=h.four.c0
 have c1:=h.four.c1
 have c2:=h.four.c2
 have c3:=h.four.c3
 have f1:=h.four.f1
 have f2:=h.four.f2
 have f3:=h.four.f3
 obtain ⟨w1,w2,l1,l2,a1,a2,r1,r2⟩:=h.inv
 simp only at c0 c1 c2 c3 w1 w2 l1 l2 a1 a2 r1 r2
 go_enter Tryz.func38,Tryz.ntmps38
 go_wp2_with fail
 go_quiet (fail)
 go_wp2_with fail
 go_quiet (fail)
 go_wp2_with (go_at_call 62;refine (za2 lim _).mono ?_;rintro e wx ⟨rfl,rfl⟩;rw [hb])
 go_ret
 exact ⟨rfl,(Turned.drewN h _).trans (Turned.got (Turned.drewN h _).1 h0 h2 (by rw [zfo h3];exact hb) rfl (zfo (s:=⟨win,lim,came,read⟩) h3).symm)⟩
theorem zug {w:World} {B sb:Nat} {s:St} (h:Obj w B sb s) (n:Int):Calls Tryz.prog 38 #[.pointer (some ⟨sb,0,none⟩),.int .i64 n] w fun e w'=>e= .returned (.int .i64 (getF s n))∧Turned w w' B sb (getS s n):=by
 obtain ⟨win,lim,came,read⟩:=s
 rcases zhy ⟨win,lim,came,read⟩ n with ⟨e,h0⟩ | ⟨e,h0,h1⟩ | ⟨e,h0,h1,h2⟩ | ⟨e,h0,h1,h2⟩
 ·rw [zew (by rw [e];decide),e];exact zsy h n h0
 ·rw [zew (by rw [e];decide),e];exact zuw h n h0 h1
 ·rw [zew (by rw [e];decide),e]
  by_cases h3:win/2<read+n-(lim-win)
  ·rw [zef h3] at h2
   exact zvl h n h0 h1 h3 h2
  ·exfalso
   rw [zfo (by simp only;omega)] at h2
   have h2:¬(0≤lim∧lim≤1073741823):=of_decide_eq_false h2
   obtain ⟨w1,w2,l1,l2,_⟩:=h.inv
   simp only at w1 w2 l1 l2
   omega
 ·rw [zl3 e,e]
  by_cases h3:win/2<read+n-(lim-win)
  ·rw [zef h3] at h2
   exact zu4 h n h0 h1 h3 h2
  ·rw [zfo (by simp only;omega)] at h2
   exact zw9 h n h0 h1 (by omega) h2
end Go.Proofs.YtdnehibcpkjafaaGreatDoor.Cx
