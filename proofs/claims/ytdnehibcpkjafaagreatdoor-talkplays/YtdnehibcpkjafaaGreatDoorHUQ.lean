/- What TalkPlays needs. -/
import Derived.Test.YtdnehibcpkjafaaGreatDoorHUC
import Derived.Test.YtdnehibcpkjafaaGreatDoorHAR
set_option linter.unusedVariables false
set_option linter.unusedSimpArgs false
set_option maxRecDepth 100000
set_option maxHeartbeats 8000000
namespace Go.Proofs.YtdnehibcpkjafaaGreatDoor
open Go.RowKit Go.Lib Go.Sort
def Tq (w wr:World) (tb:Nat) (N:Nat→Prop) (s:Tt):Prop:=∃u,TO wr w.heap.size tb u s∧Below w.heap.size w wr∧(∀k,OwnT tb u k→¬N k)∧∀k,N k→w.heap.size≤k∧k<wr.heap.size
section
variable {w wr wx : World} {tb : Nat} {N N' : Nat → Prop} {s s' : Tt}
end
structure Bx (w:World) (b:Nat) (x y:ByteArray):Prop where
 lt:b<w.heap.size
 c0:w.cell? ⟨b,0,none⟩=some (.string x)
 c1:w.cell? ⟨b,1,none⟩=some (.string y)
 f0:w.frozen? ⟨b,0,none⟩=false
 f1:w.frozen? ⟨b,1,none⟩=false
structure Tri (w:World) (vb:Nat) (ys:Nat→Int):Prop where
 lt:vb<w.heap.size
 c:∀i,i<3→w.cell? ⟨vb,i,none⟩=some (.int .i64 (ys i))
 f:∀i,i<3→w.frozen? ⟨vb,i,none⟩=false
theorem Tri.new (w:World):Tri (w.alloc (.cells #[.int .i64 0,.int .i64 0,.int .i64 0] 34)) w.heap.size (fun _=>0):=by
 refine ⟨by simp,fun i hi=> ?_,fun i hi=> ?_⟩
 ·rcases (show i=0∨i=1∨i=2 by omega) with rfl | rfl | rfl<;>simp
 ·rcases (show i=0∨i=1∨i=2 by omega) with rfl | rfl | rfl<;>simp
theorem Tri.off {K:Nat→Prop} {w w':World} {vb:Nat} {ys:Nat→Int} (h:Tri w vb ys) (ho:Off K w w') (hK:¬K vb):Tri w' vb ys:=
 ⟨Nat.lt_of_lt_of_le h.lt ho.size,fun i hi=>ho.cell (h.c i hi) hK,fun i hi=>(ho.frozen (p:=⟨vb,i,none⟩) h.lt hK).trans (h.f i hi)⟩
theorem Tri.below {w w':World} {vb:Nat} {ys:Nat→Int} (h:Tri w vb ys) (hb:Below w.heap.size w w'):Tri w' vb ys:=h.off (Off.of_below (K:=fun _=>False) hb) id
def upd (ys:Nat→Int) (j:Nat) (z:Int):Nat→Int:=fun i=>if i=j then z else ys i
theorem Tri.set {w:World} {vb:Nat} {ys:Nat→Int} (h:Tri w vb ys) {j:Nat} (hj:j<3) (z:Int):Tri (w.setCell ⟨vb,j,none⟩ (.int .i64 z)) vb (upd ys j z):=by
 refine ⟨by simpa using h.lt,fun i hi=> ?_,fun i hi=>by simpa using h.f i hi⟩
 by_cases e:i=j
 ·subst e
  rw [World.cell?_setCell_same _ _ _ (h.c i hi)]
  simp [upd]
 ·rw [World.cell?_setCell_other _ _ _ _ (by intro e';injection e' with _ e' _;exact e (by first | exact e' | exact e'.symm))]
  rw [h.c i hi]
  simp [upd,e]
structure Py (w wr:World) (tb wb gb:Nat) (s:Tt) (x0 x1 y0 y1:ByteArray):Prop where
 t:Tq w wr tb (fun k=>k=wb∨k=gb) s
 bw:Bx wr wb x0 x1
 bg:Bx wr gb y0 y1
 ne:wb≠gb
structure Pz (w wr:World) (tb wb gb vb:Nat) (s:Tt) (x0 x1 y0 y1:ByteArray) (ys:Nat→Int):Prop where
 t:Tq w wr tb (fun k=>k=wb∨k=gb∨k=vb) s
 bw:Bx wr wb x0 x1
 bg:Bx wr gb y0 y1
 bv:Tri wr vb ys
 ne:wb≠gb
 nv:vb≠wb∧vb≠gb
section
variable {w wr wx : World} {tb wb gb vb : Nat} {s s' : Tt} {x0 x1 y0 y1 : ByteArray} {ys : Nat → Int}
end
theorem zIl (e:En):(zbn e).d=e.d:=by unfold zbn;split<;>rfl
def Rel (n:Int) (K:Nat) (s:Tt) (x0 x1 y0 y1:ByteArray):Prop:=∃r q r' q',TGood n K s r q r' q'∧x0=s.a.d∧x1=s.b.d∧y0=s.b.d.extract 0 q'∧y1=s.a.d.extract 0 q
section
variable {n : Int} {K : Nat} {s : Tt} {x0 x1 y0 y1 : ByteArray}
theorem zwh {w:Int} {d:ByteArray} (h:zde s w d≠0):zci s w d=s:=by
 unfold zde at h
 unfold zci
 split
 ·rename_i hw
  rw [if_pos hw] at h
  have e:∀e:En,zee e d≠0→za9 e d=e:=fun e he=>by
   unfold zee at he
   unfold za9
   split
   ·rfl
   ·rename_i hc;rw [if_neg hc] at he;exact absurd rfl he
  rw [e _ h]
  unfold Tt.set Tt.who
  split<;>rfl
 ·rfl
theorem zq6 {w m:Int} (h:Lk.endB w=false∨m<0):zfk s w m=1∧zdg s w m=s:=by
 cases hw:Lk.endB w with
 | false=>
  unfold zfk zdg
  rw [hw,if_neg (by decide),if_neg (by decide)]
  exact ⟨rfl,rfl⟩
 | true=>
  have hm:m<0:=by
   rcases h with h | h
   ·rw [hw] at h;cases h
   ·exact h
  have e:∀e:En,readF e m=1∧zbg e m=e:=fun e=>by
   have e1:readF e m=1:=if_pos hm
   exact ⟨e1,if_neg (by rw [e1];decide)⟩
  unfold zfk zdg
  rw [hw,if_pos rfl,if_pos rfl,(e _).1,(e _).2]
  refine ⟨rfl,?_⟩
  unfold Tt.set Tt.who
  split<;>rfl
end
def Rnd (n:Int) (i:Nat) (s:Tt) (x0 x1 y0 y1:ByteArray):Prop:=∃r q r' q',Fin2 n i s r q r' q'∧x0=s.a.d∧x1=s.b.d∧y0=s.b.d.extract 0 q'∧y1=s.a.d.extract 0 q
def Mid (n:Int) (i:Nat) (s:Tt) (x0 x1 y0 y1:ByteArray):Prop:=s.ls= []∧zcb s.b=0∧((zbf s.a (zbj s.b)).1=4∨((zbf s.a (zbj s.b)).1=0∧readF (zbf s.a (zbj s.b)).2 60=0∧Rnd n (i+1) ⟨zbg (zbf s.a (zbj s.b)).2 60,zbn s.b,[]⟩ x0 x1 (y0++zdc (zbf s.a (zbj s.b)).2 60) y1∧y0.size+(zdc (zbf s.a (zbj s.b)).2 60).size≤120))
end Go.Proofs.YtdnehibcpkjafaaGreatDoor
