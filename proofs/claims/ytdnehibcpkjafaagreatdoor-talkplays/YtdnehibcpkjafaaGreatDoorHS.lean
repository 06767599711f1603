/- What TalkPlays needs. -/
import Derived.Test.YtdnehibcpkjafaaGreatDoorHO
import Derived.Laws.BytesArg
import Derived.Deep.LoopGhost
import Derived.Deep.DeepCutAuto
import Derived.Deep.RegionLaw
set_option linter.unusedVariables false
set_option linter.unusedSimpArgs false
set_option maxRecDepth 100000
set_option maxHeartbeats 8000000
namespace Go.Proofs.YtdnehibcpkjafaaGreatDoor.Sx
open Go.RowKit Go.Lib Go.Sort
structure St where
 byt:Nat→Int
 cm:Nat→Bool
 tk:Nat
def bat (d:ByteArray) (i:Nat):Int:=((d.data[i]?.getD 0).toNat:Int)
theorem zcm (d:ByteArray) (i:Nat):0≤bat d i∧bat d i≤255:=by
 have:=(d.data[i]?.getD 0).toNat_lt
 unfold bat
 omega
theorem zx4 {d:ByteArray} {i:Nat} (h:i<d.size):((d[i].toNat:Nat):Int)=bat d i:=by
 have h':i<d.data.size:=h
 rw [bat,Array.getElem?_eq_getElem h']
 rfl
def newS:St:=⟨fun _=>0,fun _=>false,0⟩
def zdh (n:Int):Bool:=decide (0≤n∧n≤60)
def cl (s:St) (a:Nat) (d:ByteArray) (i:Nat):Bool:=s.cm (a+i) && (s.byt (a+i) !=bat d i)
def clB (s:St) (a:Nat) (d:ByteArray):Bool:=(List.range d.size).any (cl s a d)
theorem zmx {s:St} {a:Nat} {d:ByteArray} {i:Nat} (hi:i<d.size) (h:cl s a d i=true):clB s a d=true:=
 List.any_eq_true.2 ⟨i,by simpa using hi,h⟩
theorem zo7 {s:St} {a:Nat} {d:ByteArray} (h:∀i,i<d.size→cl s a d i=false):clB s a d=false:=by
 refine List.any_eq_false.2 fun i hi=> ?_
 rw [h i (by simpa using hi)]
 simp
def upS (s:St) (a:Nat) (d:ByteArray) (n:Nat):St:=⟨fun j=>if a≤j∧j<a+n then bat d (j-a) else s.byt j,fun j=>decide (a≤j∧j<a+n) || s.cm j,s.tk⟩
theorem zlj (s:St) (a:Nat) (d:ByteArray):upS s a d 0=s:=by
 have e:∀j,¬(a≤j∧j<a+0):=fun j=>by omega
 cases s
 simp only [upS,e,if_false,decide_false,Bool.false_or]
theorem zj2 (s:St) (a:Nat) (d:ByteArray) (n:Nat):(upS s a d (n+1)).byt=fun j=>if j=a+n then bat d n else (upS s a d n).byt j:=by
 funext j
 simp only [upS]
 by_cases h:j=a+n
 ·subst h
  rw [if_pos (by omega),if_pos rfl]
  congr 1;omega
 ·rw [if_neg h]
  by_cases h2:a≤j∧j<a+n
  ·rw [if_pos (by omega),if_pos h2]
  ·rw [if_neg (by omega),if_neg h2]
theorem zwn (s:St) (a:Nat) (d:ByteArray) (n:Nat):(upS s a d (n+1)).cm=fun j=>if j=a+n then true else (upS s a d n).cm j:=by
 funext j
 simp only [upS]
 by_cases h:j=a+n
 ·rw [if_pos h]
  have:a≤j∧j<a+(n+1):=by omega
  simp [this]
 ·rw [if_neg h]
  have:(a≤j∧j<a+(n+1))↔(a≤j∧j<a+n):=by omega
  simp [this]
def putF (s:St) (p:Int) (d:ByteArray):Int:=if zdh p=false then 1 else if 60<p+(d.size:Int) then 4 else if clB s p.toNat d=true then 7 else 0
def putS (s:St) (p:Int) (d:ByteArray):St:=if putF s p d=0 then upS s p.toNat d d.size else s
theorem zej {s:St} {p:Int} {d:ByteArray} (h:zdh p=false):putF s p d=1:=if_pos h
theorem zfb {s:St} {p:Int} {d:ByteArray} (h:zdh p=true) (h2:60<p+(d.size:Int)):putF s p d=4:=by simp [putF,h,h2]
theorem zh8 {s:St} {p:Int} {d:ByteArray} (h:zdh p=true) (h2:p+(d.size:Int)≤60) (h3:clB s p.toNat d=true):putF s p d=7:=by
 have:¬60<p+(d.size:Int):=by omega
 simp [putF,h,this,h3]
theorem zir {s:St} {p:Int} {d:ByteArray} (h:zdh p=true) (h2:p+(d.size:Int)≤60) (h3:clB s p.toNat d=false):putF s p d=0:=by
 have:¬60<p+(d.size:Int):=by omega
 simp [putF,h,this,h3]
theorem ziw {s:St} {p:Int} {d:ByteArray} (h:putF s p d=0):putS s p d=upS s p.toNat d d.size:=if_pos h
theorem zf9 {s:St} {p:Int} {d:ByteArray} (h:putF s p d≠0):putS s p d=s:=if_neg h
structure Inv (s:St):Prop where
 t:s.tk≤60
 b:∀i,0≤s.byt i∧s.byt i≤255
theorem Inv.new:Inv newS:=⟨by simp [newS],fun i=>by simp [newS]⟩
theorem Inv.up {s:St} (h:Inv s) (a:Nat) (d:ByteArray) (n:Nat):Inv (upS s a d n):=by
 refine ⟨h.t,fun i=> ?_⟩
 simp only [upS]
 split
 ·exact zcm _ _
 ·exact h.b i
theorem Inv.put {s:St} (h:Inv s) (p:Int) (d:ByteArray):Inv (putS s p d):=by
 unfold putS
 split
 ·exact h.up _ _ _
 ·exact h
def run (cm:Nat→Bool) (t:Nat):Nat→Nat
 | 0=>0
 | k+1=>if cm t then 1+run cm (t+1) k else 0
theorem zgl (cm:Nat→Bool):∀(k t n:Nat),(∀i,i<n→cm (t+i)=true)→n<k→cm (t+n)=false→run cm t k=n
 | 0,t,n,_,h,_=>by omega
 | k+1,t,0,_,_,h=>by simp [run,show cm t=false from h]
 | k+1,t,n+1,h1,h2,h3=>by
  have:=zgl cm k (t+1) n (fun i hi=>by have:=h1 (i+1) (by omega);rwa [show t+(i+1)=t+1+i by omega] at this) (by omega) (by rwa [show t+(n+1)=t+1+n by omega] at h3)
  have h0:cm t=true:=h1 0 (by omega)
  simp [run,h0,this]
  omega
theorem zjs (cm:Nat→Bool):∀(k t:Nat),(∀i,i<k→cm (t+i)=true)→run cm t k=k
 | 0,t,_=>rfl
 | k+1,t,h=>by
  have:=zjs cm k (t+1) (fun i hi=>by have:=h (i+1) (by omega);rwa [show t+(i+1)=t+1+i by omega] at this)
  have h0:cm t=true:=h 0 (by omega)
  simp [run,h0,this]
  omega
theorem zC2 (cm:Nat→Bool):∀(k t:Nat),run cm t k≤k
 | 0,t=>Nat.le_refl _
 | k+1,t=>by
  have:=zC2 cm k (t+1)
  simp only [run]
  split<;>omega
theorem zrg (cm:Nat→Bool):∀(k t i:Nat),i<run cm t k→cm (t+i)=true
 | 0,t,i,h=>by simp [run] at h
 | k+1,t,i,h=>by
  simp only [run] at h
  split at h
  ·rename_i hc
   cases i with
   | zero=>exact hc
   | succ i=>
    have:=zrg cm k (t+1) i (by omega)
    rwa [show t+1+i=t+(i+1) by omega] at this
  ·omega
def rdy (s:St):Nat:=run s.cm s.tk (60-s.tk)
theorem zy1 (s:St):rdy s≤60-s.tk:=zC2 _ _ _
def takeN (s:St) (n:Int):Nat:=min n.toNat (rdy s)
def zc2 (s:St) (n:Int):List Int:=(List.range (takeN s n)).map fun i=>s.byt (s.tk+i)
def zba (s:St) (n:Int):St:=⟨s.byt,s.cm,s.tk+takeN s n⟩
theorem zgy (s:St) (n:Int):takeN s n≤60-s.tk:=Nat.le_trans (Nat.min_le_right _ _) (zy1 s)
theorem Inv.take {s:St} (h:Inv s) (n:Int):Inv (zba s n):=⟨by have:=zgy s n;have:=h.t;show s.tk+takeN s n≤60;omega,h.b⟩
theorem wrap_small (n:Int) (h0: -10000000000≤n) (h1:n≤10000000000):IntKind.i64.wrap n=n:=by simp [IntKind.wrap,IntKind.bits,IntKind.signed];omega
theorem zco {d:ByteArray} {k:Nat} (h:k<d.size) (w:World):(Instr.index 9 (.string d) (.int .i64 (k:Int))).run Tryz.prog w= .ok (.int .u8 (bat d k)) w:=by
 rw [run_index_string w 9 d .i64 k (by kernel_rfl),dif_pos (by omega)]
 simp only [Int.toNat_natCast]
 rw [zx4 h]
theorem zak {w:World} {a b:Addr} {u v:Value} (h:w.cell? a=some v) (e:a.off≠b.off):(w.setCell b u).cell? a=some v:=by
 rw [World.cell?_setCell_other _ _ _ _ (by intro e';subst e';exact e rfl)];exact h
structure Obj (w:World) (B sb:Nat) (s:St):Prop where
 inv:Inv s
 cb:∀i,i<60→w.cell? ⟨sb,i,none⟩=some (.int .u8 (s.byt i))
 cc:∀i,i<60→w.cell? ⟨sb,60+i,none⟩=some (.bool (s.cm i))
 ct:w.cell? ⟨sb,120,none⟩=some (.int .i64 s.tk)
 fz:∀i,i<121→w.frozen? ⟨sb,i,none⟩=false
 hs:B≤sb
section
variable {w w' : World} {B sb : Nat} {s : St}
theorem Obj.lt (h:Obj w B sb s):sb<w.heap.size:=World.block_lt_of_cell? w _ h.ct
theorem Obj.le (h:Obj w B sb s):B≤w.heap.size:=by have:=h.hs;have:=h.lt;omega
theorem Obj.off {K:Nat→Prop} (h:Obj w B sb s) (ho:Off K w w') (hK:¬K sb):Obj w' B sb s:=
 ⟨h.inv,fun i hi=>ho.cell (h.cb i hi) hK,fun i hi=>ho.cell (h.cc i hi) hK,ho.cell h.ct hK,fun i hi=>(ho.frozen (p:=⟨sb,i,none⟩) h.lt hK).trans (h.fz i hi),h.hs⟩
theorem Obj.below (h:Obj w B sb s) (hb:Below w.heap.size w w'):Obj w' B sb s:=h.off (Off.of_below (K:=fun _=>False) hb) id
theorem Obj.take (h:Obj w B sb s) {n:Int} {z:Int} (hz:z=((s.tk+takeN s n:Nat):Int)):Obj (w.setCell ⟨sb,120,none⟩ (.int .i64 z)) B sb (zba s n):=by
 subst hz
 exact ⟨h.inv.take n,fun i hi=>zak (h.cb i hi) (by show i≠120;omega),fun i hi=>zak (h.cc i hi) (by show 60+i≠120;omega),World.cell?_setCell_same _ _ _ h.ct,fun i hi=>by simpa using h.fz i hi,h.hs⟩
end
def zc:Array Value:=Array.replicate 60 (.int .u8 0)++Array.replicate 60 (.bool false)++ #[.int .i64 0]
theorem zc_b (i:Nat) (h:i<60):zc[i]? =some (.int .u8 0):=by simp [zc,Array.getElem?_append,h]
theorem zc_c (i:Nat) (h:i<60):zc[60+i]? =some (.bool false):=by
 have a:¬60+i<60:=by omega
 have b:60+i<120:=by omega
 simp [zc,Array.getElem?_append,Array.getElem?_push,h,a,b];omega
theorem zc_t:zc[120]? =some (.int .i64 0):=by simp [zc,Array.getElem?_append,Array.getElem_push]
theorem Obj.new (w:World):Obj (w.alloc (.cells zc 65)) w.heap.size w.heap.size newS:=by
 refine ⟨Inv.new,fun i hi=> ?_,fun i hi=> ?_,?_,fun i hi=> ?_,Nat.le_refl _⟩
 ·simp [zc_b i hi,newS]
 ·simp [zc_c i hi,newS]
 ·simp [zc_t,newS]
 ·simp
theorem zpq (w:World):(zeroValue 65).run Tryz.prog w= .ok (.agg zc) w:=by kernel_rfl
def Turned (w w':World) (B sb:Nat) (s:St):Prop:=Obj w' B sb s∧Off (fun k=>k=sb) w w'
theorem Turned.same {w:World} {B sb:Nat} {s:St} (h:Obj w B sb s):Turned w w B sb s:=⟨h,Off.refl _ _⟩
theorem za6 (n:Int) (w:World):Calls Tryz.prog 136 #[.int .i64 n] w fun e w'=>e= .returned (.bool (zdh n))∧w'=w:=by
 by_cases h1:0≤n
 ·by_cases h2:n≤60
  ·go_enter Tryz.func136,Tryz.ntmps136
   go_wp2
   go_ret
   exact ⟨by simp [zdh]<;>omega,rfl⟩
  ·go_enter Tryz.func136,Tryz.ntmps136
   go_wp2
   go_ret
   exact ⟨by simp [zdh]<;>omega,rfl⟩
 ·go_enter Tryz.func136,Tryz.ntmps136
  go_wp2
  go_ret
  exact ⟨by simp [zdh]<;>omega,rfl⟩
theorem zgs (w:World):Calls Tryz.prog 42 #[] w fun e w'=>e= .returned (.pointer (some ⟨w.heap.size,0,none⟩))∧Obj w' w.heap.size w.heap.size newS∧Below w.heap.size w w':=by
 have hO:=Obj.new w
 have hz:=zpq
 generalize zc=z at hO hz
 go_enter Tryz.func42,Tryz.ntmps42
 go_wp2_with fail
 go_ret
 exact ⟨rfl,hO,(Below.refl _ _).alloc (Nat.le_refl _) _⟩
theorem zdy (w:World) (p:Int) (d:ByteArray):(w.alloc (.cells #[.int .i64 p,.string d] 131)).cell? ⟨w.heap.size,0,none⟩=some (.int .i64 p)∧(w.alloc (.cells #[.int .i64 p,.string d] 131)).cell? ⟨w.heap.size,1,none⟩=some (.string d):=by simp
theorem zda {w:World} {b sb j i:Nat} {u v:Value} (h:w.cell? ⟨b,i,none⟩=some v) (e:b≠sb):(w.setCell ⟨sb,j,none⟩ u).cell? ⟨b,i,none⟩=some v:=by
 rw [World.cell?_setCell_other _ _ _ _ (by intro e';injection e' with e' _ _;exact e (by first | exact e' | exact e'.symm))];exact h
theorem zp9 {w:World} {B sb:Nat} {s:St} (h:Obj w B sb s):Calls Tryz.prog 85 #[.pointer (some ⟨sb,0,none⟩)] w fun e w'=>e= .returned (.int .i64 (rdy s:Int))∧∃m,w'=w.drewN m:=by
 have ht:=h.inv.t
 have c0:=h.ct
 have HS:Hid (∀n,n<60-s.tk→(∀i,i<n→s.cm (s.tk+i)=true)→s.cm (s.tk+n)=false→(rdy s:Int)=n):=by
  show∀n,_→_→_→_
  intro n h1 h2 h3
  rw [rdy,zgl _ _ _ n h2 h1 h3]
 have HA:Hid ((∀i,i<60-s.tk→s.cm (s.tk+i)=true)→(rdy s:Int)=60-(s.tk:Int)):=by
  show _→_
  intro h1
  rw [rdy,zjs _ _ _ h1]
  omega
 obtain ⟨r,hr⟩:∃r:Int,(rdy s:Int)=r:=⟨_,rfl⟩
 rw [hr]
 rw [hr] at HS HA
 clear hr
 have HC:Hid (∀i,i<60→w.cell? ⟨sb,60+i,none⟩=some (.bool (s.cm i))):=h.cc
 have hr0:=wrap_small (60-(s.tk:Int)) (by omega) (by omega)
 clear h
 generalize hT:s.tk=T at *
 have HM:Hid (∀i,s.cm i=s.cm i):=fun _=>rfl
 generalize s.cm=cm at HS HA HC
 clear HM hT
 go_enter Tryz.func85,Tryz.ntmps85
 go_wp2_with fail
 go_loopg [11] (60-T) (fun gk s11 wr=>∃k m:Nat,gk+k=60-T∧s11= .int .i64 k∧Hid (∀i,i<k→cm (T+i)=true)∧Hid (wr=w.drewN m))
 case atStart=>exact ⟨0,0,rfl,rfl,(show∀i,i<0→cm (T+i)=true from fun i hi=>by omega),rfl⟩
 case round=>
  obtain ⟨k,m,hk,rfl,hE,HW⟩:=hrel
  have HK:Hid (gk+k=60-T):=hk
  clear hk
  have d0:wr.cell? ⟨sb,120,none⟩=some (.int .i64 (T:Int)):=by rw [HW.out];exact c0
  have HW2:Hid (∀q,∃m,wr.drewN q=w.drewN m):=by show∀q,_;intro q;rw [HW.out,World.drewN_drewN];exact ⟨_,rfl⟩
  by_cases g:(k:Int)<60-(T:Int)
  ·have x1:wr.cell? ⟨sb,60+(T+k),none⟩=some (.bool (cm (T+k))):=by rw [HW.out];exact HC.out (T+k) (by omega)
   have u1:=wrap_small ((T:Int)+(k:Int)) (by omega) (by omega)
   cases hc:cm (T+k) with
   | true=>
    rw [hc] at x1
    have HE:Hid (∀i,i<k+1→cm (T+i)=true):=by
     show∀i,_→_
     intro i hi
     by_cases e:i=k
     ·rw [e];exact hc
     ·exact hE.out i (by omega)
    clear hc hE
    go_wp2_with fail
    go_quiet (fail)
    go_wp2_with fail
    go_roundg (60-T-(k+1))
    case measure=>have:=HK.out;omega
    case rel=>
     obtain ⟨m2,e2⟩:=HW2.out _
     exact ⟨k+1,m2,by have:=HK.out;omega,by go_num,HE,e2⟩
   | false=>
    rw [hc] at x1
    have HR:Hid (r=(k:Int)):=HS.out k (by omega) hE.out hc
    clear hc hE
    go_wp2_with fail
    go_quiet (fail)
    go_wp2_with fail
    go_ret
    exact ⟨by rw [HR.out];rfl,HW2.out _⟩
  ·have HR:Hid (r=60-(T:Int)):=HA.out fun i hi=>hE.out i (by have:=HK.out;omega)
   go_wp2_with fail
   go_ret
   exact ⟨by rw [HR.out];rfl,HW2.out 0⟩
def zmk (T:Nat):Nat:=if 60=T then 0 else T
theorem zga (w:World) (sb T:Nat) (k:Int) (h0:0≤k) (h1:(T:Int)+k≤60):(Instr.sliceAt 60 (.pointer (some ⟨sb,0,none⟩)) (some (.int .i64 (T:Int))) (some (.int .i64 ((T:Int)+k))) none).run Tryz.prog w= .ok (.slice (some ⟨sb,zmk T,none⟩) k.toNat (60-T)) w:=by
 have hl:Tryz.prog.arrayLen 60=60:=by kernel_rfl
 have he:(sizeOf (Tryz.prog.elem 60)).run Tryz.prog w= .ok 1 w:=by kernel_rfl
 rw [run_sliceAt_array_lh w 60 ⟨sb,0,none⟩ (by kernel_rfl) .i64 .i64 (T:Int) ((T:Int)+k) (by omega) (by omega) (by rw [hl];omega),he]
 simp only [Result.andThen,slicedAt,hl,zmk,Addr.add_lit]
 by_cases e:60=T
 ·subst e
  simp
  omega
 ·have e2:¬60=(T:Int).toNat:=by omega
  rw [if_neg e2,if_neg e]
  simp
  omega
theorem zko {w:World} {B sb:Nat} {s:St} (h:Obj w B sb s) (n:Int) (hn:n<0):Calls Tryz.prog 57 #[.pointer (some ⟨sb,0,none⟩),.int .i64 n] w fun e w'=>e= .returned (.tuple #[.string ByteArray.empty,.iface 78 (.int .i64 1)])∧Turned w w' B sb s:=by
 go_enter Tryz.func57,Tryz.ntmps57
 go_wp2_with fail
 go_ret2
 exact ⟨rfl,Turned.same h⟩
theorem zbc {w:World} {B sb:Nat} {s:St} (h:Obj w B sb s) (n:Int) (hn:0≤n):Calls Tryz.prog 57 #[.pointer (some ⟨sb,0,none⟩),.int .i64 n] w fun e w'=>e= .returned (.tuple #[.string (strOfNums (zc2 s n)),.nilIface])∧Turned w w' B sb (zba s n):=by
 have ht:=h.inv.t
 have ct:=h.ct
 have f0:=h.fz 120 (by omega)
 have hle:=zy1 s
 obtain ⟨z,hz,ek⟩:∃z:Int,(if (rdy s:Int)<n then (rdy s:Int) else n)=z∧takeN s n=z.toNat:=by
  refine ⟨_,rfl,?_⟩
  unfold takeN
  split<;>omega
 have hz0:0≤z:=by split at hz<;>omega
 have hz1:z≤60-(s.tk:Int):=by split at hz<;>omega
 have HT:Hid (∀q,Turned w ((w.setCell ⟨sb,120,none⟩ (.int .i64 ((s.tk:Int)+z))).drewN q) B sb (zba s n)):=by
  show∀q,_
  intro q
  have o:=h.take (n:=n) (z:=(s.tk:Int)+z) (by rw [ek];omega)
  exact ⟨o.below (below_drewN (Below.refl _ _) q),((Off.refl _ _).setCell (K:=fun k=>k=sb) (a:=⟨sb,120,none⟩) rfl _).trans (Off.of_below (below_drewN (Below.refl _ _) q))⟩
 have hcv:∀q,(convert 96 9 (.slice (some ⟨sb,zmk s.tk,none⟩) z.toNat (60-s.tk))).run Tryz.prog ((w.setCell ⟨sb,120,none⟩ (.int .i64 ((s.tk:Int)+z))).drewN q)= .ok (.string (strOfNums (zc2 s n))) ((w.setCell ⟨sb,120,none⟩ (.int .i64 ((s.tk:Int)+z))).drewN q):=fun q=>
  run_convert_bytes_arg _ 96 5 Tryz.underlying96 Tryz.underlying5 sb (zmk s.tk) _ _ (zc2 s n) (by simp [zc2,ek]) (fun i hi=>by
   have hi':i<takeN s n:=by rw [ek];exact hi
   have hl:=zgy s n
   have hT:zmk s.tk=s.tk:=by unfold zmk;rw [if_neg (by omega)]
   rw [hT,World.cell?_drewN,zak (h.cb (s.tk+i) (by omega)) (by show s.tk+i≠120;omega)]
   simp [zc2,hi']) 9 Tryz.underlying9
 have hsl:∀w,(Instr.sliceAt 60 (.pointer (some ⟨sb,0,none⟩)) (some (.int .i64 (s.tk:Int))) (some (.int .i64 ((s.tk:Int)+z))) none).run Tryz.prog w= .ok (.slice (some ⟨sb,zmk s.tk,none⟩) z.toNat (60-s.tk)) w:=fun w=>zga w sb s.tk (z) (by omega) (by omega)
 have hq:=fun q=>zp9 (h.below (below_drewN (Below.refl w.heap.size w) q))
 have ct2:(w.setCell ⟨sb,120,none⟩ (.int .i64 ((s.tk:Int)+z))).cell? ⟨sb,120,none⟩=some (.int .i64 ((s.tk:Int)+z)):=World.cell?_setCell_same _ _ _ ct
 have HZ:Hid (IntKind.i64.wrap ((s.tk:Int)+if (rdy s:Int)<n then (rdy s:Int) else n)=(s.tk:Int)+z):=by show _=_;rw [hz];exact wrap_small _ (by omega) (by omega)
 have HCV:Hid (∀q,(convert 96 9 (.slice (some ⟨sb,zmk s.tk,none⟩) z.toNat (60-s.tk))).run Tryz.prog ((w.setCell ⟨sb,120,none⟩ (.int .i64 ((s.tk:Int)+z))).drewN q)= .ok (.string (strOfNums (zc2 s n))) ((w.setCell ⟨sb,120,none⟩ (.int .i64 ((s.tk:Int)+z))).drewN q)):=hcv
 have CT2:Hid ((w.setCell ⟨sb,120,none⟩ (.int .i64 ((s.tk:Int)+z))).cell? ⟨sb,120,none⟩=some (.int .i64 ((s.tk:Int)+z))):=ct2
 clear h ek hcv ct2 hz
 generalize zc2 s n=L at HCV ⊢
 generalize rdy s=r at *
 generalize s.tk=T at *
 go_enter Tryz.func57,Tryz.ntmps57
 go_wp2_with fail
 go_cut [] (fun wx=>Hid (∃q,wx=(w.setCell ⟨sb,120,none⟩ (.int .i64 ((T:Int)+z))).drewN q))
 case first=>
  go_region_with (go_at_call 85;refine (hq _).mono ?_;rintro e w2 ⟨rfl,m,rfl⟩)
  all_goals (try go_wp2_with fail)
  all_goals go_meet
  all_goals exact (show∃q,_ from ⟨1+m,by have e:=HZ.out;split at e<;>first | (rw [e];rfl) | (exfalso;omega)⟩)
 case rest=>
  have hct:wc.cell? ⟨sb,120,none⟩=some (.int .i64 ((T:Int)+z)):=by obtain ⟨q,e⟩:=hcut.out;rw [e];exact CT2.out
  have hcv:(convert 96 9 (.slice (some ⟨sb,zmk T,none⟩) z.toNat (60-T))).run Tryz.prog wc.drew= .ok (.string (strOfNums L)) wc.drew:=by
   rw [World.drew_is_drewN]
   obtain ⟨q,e⟩:=hcut.out
   rw [e,World.drewN_drewN]
   exact HCV.out _
  have HT2:Hid (Turned w wc.drew B sb (zba s n)):=by
   show Turned _ _ _ _ _
   rw [World.drew_is_drewN]
   obtain ⟨q,e⟩:=hcut.out
   rw [e,World.drewN_drewN]
   exact HT.out _
  clear hcut HCV HT HZ CT2 hq ct f0
  go_wp2_with fail
  go_region
  all_goals go_wp2_with fail
  all_goals go_ret2
  all_goals exact ⟨rfl,HT2.out⟩
end Go.Proofs.YtdnehibcpkjafaaGreatDoor.Sx
namespace Go.Proofs.YtdnehibcpkjafaaGreatDoor.Sy
open Go.RowKit Go.Lib Go.Sort
open Sx (St Inv bat zcm zx4 zdh cl clB zmx zo7 upS zlj zj2 zwn putF putS zej zfb zh8 zir ziw zf9 rdy zgl zjs wrap_small zco zak zda zdy)
structure Obj (w:World) (sb:Nat) (s:St):Prop where
 inv:Inv s
 cb:∀i,i<60→w.cell? ⟨sb,125+i,none⟩=some (.int .u8 (s.byt i))
 cc:∀i,i<60→w.cell? ⟨sb,185+i,none⟩=some (.bool (s.cm i))
 ct:w.cell? ⟨sb,245,none⟩=some (.int .i64 s.tk)
 fz1:∀i,i<60→w.frozen? ⟨sb,125+i,none⟩=false
 fz2:∀i,i<60→w.frozen? ⟨sb,185+i,none⟩=false
structure OffS (sb:Nat) (w w':World):Prop where
 off:Off (fun k=>k=sb) w w'
 rest:∀i,i<125∨245≤i→w'.cell? ⟨sb,i,none⟩=w.cell? ⟨sb,i,none⟩
 fz:∀i,w'.frozen? ⟨sb,i,none⟩=w.frozen? ⟨sb,i,none⟩
theorem OffS.refl (sb:Nat) (w:World):OffS sb w w:=⟨Off.refl _ _,fun _ _=>rfl,fun _=>rfl⟩
theorem OffS.trans {sb:Nat} {a b c:World} (h:OffS sb a b) (k:OffS sb b c):OffS sb a c:=⟨h.off.trans k.off,fun i hi=>(k.rest i hi).trans (h.rest i hi),fun i=>(k.fz i).trans (h.fz i)⟩
theorem OffS.of_below {sb:Nat} {w w':World} (hl:sb<w.heap.size) (h:Below w.heap.size w w'):OffS sb w w':=
 ⟨Off.of_below h,fun i _=>h.cell (p:=⟨sb,i,none⟩) hl,fun i=>World.frozen?_of_block (h.block sb hl)⟩
theorem OffS.up' {sb:Nat} {w w':World} (h:OffS sb w w') {i j:Nat} (i0:125≤i) (i1:i<245) (j0:125≤j) (j1:j<245) (u v:Value):OffS sb w ((w'.setCell ⟨sb,i,none⟩ u).drew.setCell ⟨sb,j,none⟩ v).drew:=by
 refine h.trans ⟨(((Off.refl (fun k=>k=sb) w').setCell (a:=⟨sb,i,none⟩) rfl u).setCell (a:=⟨sb,j,none⟩) rfl v).trans (Off.of_below ⟨rfl,rfl,rfl,Nat.le_refl _,fun _ _=>rfl⟩),fun k hk=> ?_,fun k=> ?_⟩
 ·show ((w'.setCell ⟨sb,i,none⟩ u).setCell ⟨sb,j,none⟩ v).cell? _=_
  rw [World.cell?_setCell_other _ _ _ _ (fun e=>by injection e;omega),World.cell?_setCell_other _ _ _ _ (fun e=>by injection e;omega)]
 ·show ((w'.setCell ⟨sb,i,none⟩ u).setCell ⟨sb,j,none⟩ v).frozen? _=_
  simp
section
variable {w w' : World} {sb : Nat} {s : St}
theorem Obj.offS (h:Obj w sb s) (hl:sb<w.heap.size) (hb:Below w.heap.size w w'):Obj w' sb s:=by
 have f:∀i,w'.frozen? ⟨sb,i,none⟩=w.frozen? ⟨sb,i,none⟩:=fun i=>World.frozen?_of_block (hb.block sb hl)
 exact ⟨h.inv,fun i hi=>(hb.cell (p:=⟨sb,125+i,none⟩) hl).trans (h.cb i hi),fun i hi=>(hb.cell (p:=⟨sb,185+i,none⟩) hl).trans (h.cc i hi),(hb.cell (p:=⟨sb,245,none⟩) hl).trans h.ct,fun i hi=>(f _).trans (h.fz1 i hi),fun i hi=>(f _).trans (h.fz2 i hi)⟩
theorem Obj.below (h:Obj w sb s) (hl:sb<w.heap.size) (hb:Below w.heap.size w w'):Obj w' sb s:=h.offS hl hb
theorem Obj.up {a n:Nat} {d:ByteArray} (h:Obj w sb (upS s a d n)) (hn:a+n<60):
  Obj ((w.setCell ⟨sb,125+(a+n),none⟩ (.int .u8 (bat d n))).setCell ⟨sb,185+(a+n),none⟩ (.bool true)) sb (upS s a d (n+1)):=by
 refine ⟨?_,fun i hi=> ?_,fun i hi=> ?_,?_,fun i hi=>by simpa using h.fz1 i hi,fun i hi=>by simpa using h.fz2 i hi⟩
 ·refine ⟨h.inv.t,fun i=> ?_⟩
  rw [zj2]
  by_cases e:i=a+n
  ·simp only [e,if_true];exact zcm _ _
  ·simp only [e,if_false];exact h.inv.b i
 ·rw [zj2]
  refine zak ?_ (by show 125+i≠185+(a+n);omega)
  by_cases e:i=a+n
  ·subst e
   simp only [if_true]
   exact World.cell?_setCell_same _ _ _ (h.cb _ hi)
  ·simp only [e,if_false]
   exact zak (h.cb i hi) (by show 125+i≠125+(a+n);omega)
 ·rw [zwn]
  by_cases e:i=a+n
  ·subst e
   simp only [if_true]
   exact World.cell?_setCell_same _ _ _ (zak (h.cc _ hi) (by show 185+(a+n)≠125+(a+n);omega))
  ·simp only [e,if_false]
   exact zak (zak (h.cc i hi) (by show 185+i≠125+(a+n);omega)) (by show 185+i≠185+(a+n);omega)
 ·exact zak (zak h.ct (by show 245≠125+(a+n);omega)) (by show 245≠185+(a+n);omega)
theorem Obj.up' {a n:Nat} {d:ByteArray} (h:Obj w sb (upS s a d n)) (hn:a+n<60):
  Obj ((w.setCell ⟨sb,125+(a+n),none⟩ (.int .u8 (bat d n))).drew.setCell ⟨sb,185+(a+n),none⟩ (.bool true)).drew sb (upS s a d (n+1)):=by
 obtain ⟨a1,a2,a3,a4,a5,a6⟩:=h.up hn
 exact ⟨a1,a2,a3,a4,a5,a6⟩
end
def Turned (w w':World) (sb:Nat) (s:St):Prop:=Obj w' sb s∧OffS sb w w'
theorem Turned.below {w w':World} {sb:Nat} {s:St} (h:Obj w sb s) (hl:sb<w.heap.size) (hb:Below w.heap.size w w'):Turned w w' sb s:=⟨h.below hl hb,OffS.of_below hl hb⟩
theorem zhc {w:World} {sb:Nat} {s:St} (h:Obj w sb s) (hlt:sb<w.heap.size) (a:Nat) (d:ByteArray) (hd:a+d.size≤60):Calls Tryz.prog 137 #[.pointer (some ⟨sb,125,none⟩),.agg #[.int .i64 a,.string d]] w fun e w'=>e= .returned (.bool (clB s a d))∧Below w.heap.size w w':=by
 have hb0:Below w.heap.size w (w.alloc (.cells #[.int .i64 a,.string d] 131)):=(Below.refl _ _).alloc (Nat.le_refl _) _
 have HO:Hid (Obj (w.alloc (.cells #[.int .i64 a,.string d] 131)) sb s):=h.below hlt hb0
 have HB:Hid (Below w.heap.size w (w.alloc (.cells #[.int .i64 a,.string d] 131))):=hb0
 have HQ:Hid (w.heap.size<(w.alloc (.cells #[.int .i64 a,.string d] 131)).heap.size):=by show _<_;simp
 obtain ⟨q0,q1⟩:=zdy w a d
 have HL:Hid (sb<(w.alloc (.cells #[.int .i64 a,.string d] 131)).heap.size):=Nat.lt_of_lt_of_le hlt hb0.size
 clear h hb0 hlt
 go_enter Tryz.func137,Tryz.ntmps137
 go_wp2_with fail
 generalize w.alloc (.cells #[.int .i64 a,.string d] 131)=W at HO HB HQ HL q0 q1 ⊢
 go_loopg [9] d.size (fun gk s9 wr=>∃k:Nat,gk+k=d.size∧s9= .int .i64 k∧Hid (∀i,i<k→cl s a d i=false)∧Below W.heap.size W wr)
 case atStart=>exact ⟨0,rfl,rfl,(show∀i,i<0→cl s a d i=false from fun i hi=>by omega),Below.refl _ _⟩
 case round=>
  obtain ⟨k,hk,rfl,hE,hW⟩:=hrel
  have HK:Hid (gk+k=d.size):=hk
  clear hk
  have p0:=(hW.cell (p:=⟨w.heap.size,0,none⟩) HQ.out).trans q0
  have p1:=(hW.cell (p:=⟨w.heap.size,1,none⟩) HQ.out).trans q1
  by_cases g:(k:Int)<(d.size:Int)
  ·have x0:=(HO.out.below HL.out hW).cb (a+k) (by omega)
   have x1:=(HO.out.below HL.out hW).cc (a+k) (by omega)
   have hix:=fun w=>zco (d:=d) (k:=k) (by omega) w
   have u1:=wrap_small ((a:Int)+(k:Int)) (by omega) (by omega)
   have HN:Hid (cl s a d k=false→∀i,i<k+1→cl s a d i=false):=by
    show _→_
    intro hc i hi
    by_cases e:i=k
    ·rw [e];exact hc
    ·exact hE.out i (by omega)
   have HY:Hid (cl s a d k=true→clB s a d=true):=fun hc=>zmx (by omega) hc
   have HC:Hid (cl s a d k=(s.cm (a+k) && (s.byt (a+k) !=bat d k))):=rfl
   clear hE
   generalize s.cm (a+k)=c at x1 HC
   generalize s.byt (a+k)=y at x0 HC
   generalize bat d k=z at hix HC
   cases c with
   | false=>
    have hc:cl s a d k=false:=by rw [HC.out];rfl
    have HM:Hid (∀i,i<k+1→cl s a d i=false):=HN.out hc
    clear HN HY HC hc
    go_wp2_with fail
    go_quiet (fail)
    go_wp2_with fail
    go_roundg (d.size-(k+1))
    case measure=>have:=HK.out;omega
    case rel=>exact ⟨k+1,by have:=HK.out;omega,by go_num,HM,below_drewN hW _⟩
   | true=>
    by_cases e:y=z
    ·subst e
     have hc:cl s a d k=false:=by rw [HC.out];simp
     have HM:Hid (∀i,i<k+1→cl s a d i=false):=HN.out hc
     clear HN HY HC hc
     go_wp2_with fail
     go_quiet (fail)
     go_wp2_with fail
     go_roundg (d.size-(k+1))
     case measure=>have:=HK.out;omega
     case rel=>exact ⟨k+1,by have:=HK.out;omega,by go_num,HM,below_drewN hW _⟩
    ·have hc:cl s a d k=true:=by rw [HC.out];simp [e]
     have HM:Hid (clB s a d=true):=HY.out hc
     clear HN HY HC hc
     go_wp2_with fail
     go_quiet (fail)
     go_wp2_with fail
     go_ret
     exact ⟨by rw [HM.out];rfl,HB.out.trans ((below_drewN hW _).mono (Nat.le_of_lt HQ.out))⟩
  ·have HM:Hid (clB s a d=false):=zo7 fun i hi=>hE.out i (by omega)
   go_wp2_with fail
   go_ret
   exact ⟨by rw [HM.out];rfl,HB.out.trans (hW.mono (Nat.le_of_lt HQ.out))⟩
theorem zuq {w:World} {sb:Nat} {s:St} (h:Obj w sb s) (hlt:sb<w.heap.size) (p:Int) (d:ByteArray) (hp:zdh p=false):Calls Tryz.prog 111 #[.pointer (some ⟨sb,125,none⟩),.agg #[.int .i64 p,.string d]] w fun e w'=>e= .returned (.iface 78 (.int .i64 1))∧Turned w w' sb s:=by
 have hb0:Below w.heap.size w (w.alloc (.cells #[.int .i64 p,.string d] 131)):=(Below.refl _ _).alloc (Nat.le_refl _) _
 obtain ⟨q0,q1⟩:=zdy w p d
 go_enter Tryz.func111,Tryz.ntmps111
 go_wp2_with (go_at_call 136;refine (Sx.za6 p _).mono ?_;rintro e w1 ⟨rfl,rfl⟩;rw [hp])
 go_ret
 exact ⟨rfl,Turned.below h hlt hb0⟩
theorem zAa {w:World} {sb:Nat} {s:St} (h:Obj w sb s) (hlt:sb<w.heap.size) (p:Int) (d:ByteArray) (hp:zdh p=true) (h2:60<p+(d.size:Int)) (hd:d.size≤140737488351232):Calls Tryz.prog 111 #[.pointer (some ⟨sb,125,none⟩),.agg #[.int .i64 p,.string d]] w fun e w'=>e= .returned (.iface 78 (.int .i64 4))∧Turned w w' sb s:=by
 have hb0:Below w.heap.size w (w.alloc (.cells #[.int .i64 p,.string d] 131)):=(Below.refl _ _).alloc (Nat.le_refl _) _
 obtain ⟨q0,q1⟩:=zdy w p d
 obtain ⟨p0,p1⟩:0≤p∧p≤60:=of_decide_eq_true hp
 have h3:60-p<(d.size:Int):=by omega
 go_enter Tryz.func111,Tryz.ntmps111
 go_wp2_with (go_at_call 136;refine (Sx.za6 p _).mono ?_;rintro e w1 ⟨rfl,rfl⟩;rw [hp])
 go_ret
 exact ⟨rfl,Turned.below h hlt hb0⟩
theorem zy6 {w:World} {sb:Nat} {s:St} (h:Obj w sb s) (hlt:sb<w.heap.size) (a:Nat) (d:ByteArray) (hd:a+d.size≤60) (hc:clB s a d=true):Calls Tryz.prog 111 #[.pointer (some ⟨sb,125,none⟩),.agg #[.int .i64 (a:Int),.string d]] w fun e w'=>e= .returned (.iface 78 (.int .i64 7))∧Turned w w' sb s:=by
 have hb0:Below w.heap.size w (w.alloc (.cells #[.int .i64 (a:Int),.string d] 131)):=(Below.refl _ _).alloc (Nat.le_refl _) _
 obtain ⟨q0,q1⟩:=zdy w (a:Int) d
 have p0:(a:Int)≤60:=by omega
 have hp:zdh (a:Int)=true:=decide_eq_true ⟨by omega,by omega⟩
 have h3:(d.size:Int)≤60-(a:Int):=by omega
 go_enter Tryz.func111,Tryz.ntmps111
 go_wp2_with (go_at_call 136;refine (Sx.za6 (a:Int) _).mono ?_;rintro e w1 ⟨rfl,rfl⟩;rw [hp])
 refine (zhc (h.below hlt hb0) (Nat.lt_of_lt_of_le hlt hb0.size) a d hd).mono ?_
 rintro e w2 ⟨rfl,hb2⟩
 have HB2:Hid (Below w.heap.size w w2):=hb0.trans (hb2.mono hb0.size)
 have r0:=(hb2.cell (p:=⟨w.heap.size,0,none⟩) (by simp)).trans q0
 have r1:=(hb2.cell (p:=⟨w.heap.size,1,none⟩) (by simp)).trans q1
 rw [hc]
 clear hb0 hb2 q0 q1
 go_wp2_with fail
 go_ret
 exact ⟨rfl,Turned.below h hlt HB2.out⟩
theorem zpx {w:World} {sb:Nat} {s:St} (h:Obj w sb s) (hlt:sb<w.heap.size) (a:Nat) (d:ByteArray) (hd:a+d.size≤60) (hc:clB s a d=false):Calls Tryz.prog 111 #[.pointer (some ⟨sb,125,none⟩),.agg #[.int .i64 (a:Int),.string d]] w fun e w'=>e= .returned .nilIface∧Turned w w' sb (upS s a d d.size):=by
 have hb0:Below w.heap.size w (w.alloc (.cells #[.int .i64 (a:Int),.string d] 131)):=(Below.refl _ _).alloc (Nat.le_refl _) _
 obtain ⟨q0,q1⟩:=zdy w (a:Int) d
 have p0:(a:Int)≤60:=by omega
 have hp:zdh (a:Int)=true:=decide_eq_true ⟨by omega,by omega⟩
 have h3:(d.size:Int)≤60-(a:Int):=by omega
 go_enter Tryz.func111,Tryz.ntmps111
 go_wp2_with (go_at_call 136;refine (Sx.za6 (a:Int) _).mono ?_;rintro e w1 ⟨rfl,rfl⟩;rw [hp])
 refine (zhc (h.below hlt hb0) (Nat.lt_of_lt_of_le hlt hb0.size) a d hd).mono ?_
 rintro e w2 ⟨rfl,hb2⟩
 have HB2:Hid (Below w.heap.size w w2):=hb0.trans (hb2.mono hb0.size)
 have r0:=(hb2.cell (p:=⟨w.heap.size,0,none⟩) (by simp)).trans q0
 have r1:=(hb2.cell (p:=⟨w.heap.size,1,none⟩) (by simp)).trans q1
 rw [hc]
 clear hb0 hb2 q0 q1
 have HO:Hid (Obj w2 sb (upS s a d 0)):=by show Obj _ _ _;rw [zlj];exact h.below hlt HB2.out
 have HX:Hid (w.heap.size≠sb∧w.heap.size<w2.heap.size):=⟨by omega,World.block_lt_of_cell? w2 _ r0⟩
 clear h hc
 go_wp2_with fail
 go_loopg [26] d.size (fun gk s26 wr=>∃k:Nat,gk+k=d.size∧s26= .int .i64 k∧Obj wr sb (upS s a d k)∧OffS sb w2 wr)
 case atStart=>exact ⟨0,rfl,rfl,HO.out,OffS.refl _ _⟩
 case round=>
  obtain ⟨k,hk,rfl,hO,hW⟩:=hrel
  have HK:Hid (gk+k=d.size):=hk
  clear hk
  have p0:=hW.off.cell (p:=⟨w.heap.size,0,none⟩) r0 HX.out.1
  have p1:=hW.off.cell (p:=⟨w.heap.size,1,none⟩) r1 HX.out.1
  by_cases g:(k:Int)<(d.size:Int)
  ·have x0:=hO.cb (a+k) (by omega)
   have x1:=hO.cc (a+k) (by omega)
   have f0:=hO.fz1 (a+k) (by omega)
   have f1:=hO.fz2 (a+k) (by omega)
   have hix:=fun w=>zco (d:=d) (k:=k) (by omega) w
   have u1:=wrap_small ((a:Int)+(k:Int)) (by omega) (by omega)
   have hO2:=hO.up' (show a+k<60 by omega)
   have hW2:=hW.up' (i:=125+(a+k)) (j:=185+(a+k)) (by omega) (by omega) (by omega) (by omega) (.int .u8 (bat d k)) (.bool true)
   have p2:=zda (v:= .int .i64 a) (j:=125+(a+k)) (u:= .int .u8 (bat d k)) p0 HX.out.1
   have x2:=zak (b:=⟨sb,125+(a+k),none⟩) (u:= .int .u8 (bat d k)) x1 (by show 185+(a+k)≠125+(a+k);omega)
   have f2:(wr.setCell ⟨sb,125+(a+k),none⟩ (.int .u8 (bat d k))).frozen? ⟨sb,185+(a+k),none⟩=false:=by simpa using f1
   have HO2:Hid (Obj ((wr.setCell ⟨sb,125+(a+k),none⟩ (.int .u8 (bat d k))).drew.setCell ⟨sb,185+(a+k),none⟩ (.bool true)).drew sb (upS s a d (k+1))):=hO2
   have HW2:Hid (OffS sb w2 ((wr.setCell ⟨sb,125+(a+k),none⟩ (.int .u8 (bat d k))).drew.setCell ⟨sb,185+(a+k),none⟩ (.bool true)).drew):=hW2
   clear hO2 hW2
   go_wp2_with fail
   go_region
   clear p0 p1 x0 x1 f0 f1 hO hW hix
   generalize wr.setCell ⟨sb,125+(a+k),none⟩ (.int .u8 (bat d k))=W1 at p2 x2 f2 HO2 HW2 ⊢
   go_wp2_with fail
   go_region
   go_wp2_with fail
   go_roundg (d.size-(k+1))
   case measure=>have:=HK.out;omega
   case rel=>exact ⟨k+1,by have:=HK.out;omega,by go_num,HO2.out,HW2.out⟩
  ·have e:k=d.size:=by have:=HK.out;omega
   subst e
   go_wp2_with fail
   go_ret
   exact ⟨rfl,hO,(OffS.of_below hlt HB2.out).trans hW⟩
theorem zur {w:World} {sb:Nat} {s:St} (h:Obj w sb s) (hlt:sb<w.heap.size) (p:Int) (d:ByteArray) (hd:d.size≤140737488351232):Calls Tryz.prog 111 #[.pointer (some ⟨sb,125,none⟩),.agg #[.int .i64 p,.string d]] w fun e w'=>e= .returned (errV (putF s p d))∧Turned w w' sb (putS s p d):=by
 cases hp:zdh p with
 | false=>rw [zf9 (by rw [zej hp];decide),zej hp,zbh (by decide)];exact zuq h hlt p d hp
 | true=>
  by_cases h2:60<p+(d.size:Int)
  ·rw [zf9 (by rw [zfb hp h2];decide),zfb hp h2,zbh (by decide)];exact zAa h hlt p d hp h2 hd
  ·obtain ⟨p0,p1⟩:0≤p∧p≤60:=of_decide_eq_true hp
   obtain ⟨a,rfl⟩:∃a:Nat,p=(a:Int):=⟨p.toNat,by omega⟩
   cases hc:clB s a d with
   | true=>
    have e:=zh8 (s:=s) (d:=d) hp (by omega) (by simpa using hc)
    rw [zf9 (by rw [e];decide),e,zbh (by decide)];exact zy6 h hlt a d (by omega) hc
   | false=>
    have e:=zir (s:=s) (d:=d) hp (by omega) (by simpa using hc)
    rw [ziw e,e,zdk];exact zpx h hlt a d (by omega) hc
end Go.Proofs.YtdnehibcpkjafaaGreatDoor.Sy
namespace Go.Proofs.YtdnehibcpkjafaaGreatDoor.Sx
open Go.RowKit Go.Lib Go.Sort
def val (s:St) (i:Nat):Int:=if s.cm i=true then s.byt i else -1
theorem zlm {s:St} {i:Nat} (h:s.cm i=true):val s i=s.byt i:=if_pos h
theorem zy7 {s:St} {i:Nat} (h:s.cm i=false):val s i= -1:=if_neg (by rw [h];decide)
structure Ref (w:World) (B sb:Nat) (s:St):Prop where
 inv:Inv s
 cb:∀i,i<60→w.cell? ⟨sb,i,none⟩=some (.int .i64 (val s i))
 ct:w.cell? ⟨sb,60,none⟩=some (.int .i64 s.tk)
 fz:∀i,i<61→w.frozen? ⟨sb,i,none⟩=false
 hs:B≤sb
section
variable {w w' : World} {B sb : Nat} {s : St}
theorem Ref.lt (h:Ref w B sb s):sb<w.heap.size:=World.block_lt_of_cell? w _ h.ct
theorem Ref.off {K:Nat→Prop} (h:Ref w B sb s) (ho:Off K w w') (hK:¬K sb):Ref w' B sb s:=
 ⟨h.inv,fun i hi=>ho.cell (h.cb i hi) hK,ho.cell h.ct hK,fun i hi=>(ho.frozen (p:=⟨sb,i,none⟩) h.lt hK).trans (h.fz i hi),h.hs⟩
theorem Ref.below (h:Ref w B sb s) (hb:Below w.heap.size w w'):Ref w' B sb s:=h.off (Off.of_below (K:=fun _=>False) hb) id
theorem Ref.base (h:Ref w B sb s) {B':Nat} (hb:B'≤B):Ref w B' sb s:=⟨h.inv,h.cb,h.ct,h.fz,Nat.le_trans hb h.hs⟩
theorem zH0 (s:St) (a n:Nat) (d:ByteArray) (i:Nat):val (upS s a d (n+1)) i=if i=a+n then bat d n else val (upS s a d n) i:=by
 unfold val
 rw [zwn,zj2]
 by_cases e:i=a+n
 ·simp [e]
 ·simp [e]
theorem Ref.up {a n:Nat} {d:ByteArray} (h:Ref w B sb (upS s a d n)) (hn:a+n<60):Ref (w.setCell ⟨sb,a+n,none⟩ (.int .i64 (bat d n))).drew B sb (upS s a d (n+1)):=by
 have o:Ref (w.setCell ⟨sb,a+n,none⟩ (.int .i64 (bat d n))) B sb (upS s a d (n+1)):=by
  refine ⟨⟨h.inv.t,fun i=> ?_⟩,fun i hi=> ?_,zak h.ct (by show 60≠a+n;omega),fun i hi=>by simpa using h.fz i hi,h.hs⟩
  ·rw [zj2]
   by_cases e:i=a+n
   ·simp only [e,if_true];exact zcm _ _
   ·simp only [e,if_false];exact h.inv.b i
  ·rw [zH0]
   by_cases e:i=a+n
   ·subst e
    simp only [if_true]
    exact World.cell?_setCell_same _ _ _ (h.cb _ hi)
   ·simp only [e,if_false]
    exact zak (h.cb i hi) e
 exact o.below (below_drewN (Below.refl _ _) 1)
theorem Ref.take (h:Ref w B sb s) {n z:Int} (hz:z=((s.tk+takeN s n:Nat):Int)):Ref (w.setCell ⟨sb,60,none⟩ (.int .i64 z)) B sb (zba s n):=by
 subst hz
 exact ⟨h.inv.take n,fun i hi=>zak (h.cb i hi) (by show i≠60;omega),World.cell?_setCell_same _ _ _ h.ct,fun i hi=>by simpa using h.fz i hi,h.hs⟩
end
def RTurned (w w':World) (B sb:Nat) (s:St):Prop:=Ref w' B sb s∧Off (fun k=>k=sb) w w'
theorem RTurned.same {w:World} {B sb:Nat} {s:St} (h:Ref w B sb s):RTurned w w B sb s:=⟨h,Off.refl _ _⟩
theorem RTurned.below {w w':World} {B sb:Nat} {s:St} (h:Ref w B sb s) (hb:Below w.heap.size w w'):RTurned w w' B sb s:=⟨h.below hb,Off.of_below hb⟩
def zr:Array Value:=Array.replicate 61 (.int .i64 0)
theorem zCc (w:World):(zeroValue 127).run Tryz.prog w= .ok (.agg zr) w:=by kernel_rfl
structure Pre (w:World) (sb k:Nat):Prop where
 cb:∀i,i<60→w.cell? ⟨sb,i,none⟩=some (.int .i64 (if i<k then -1 else 0))
 ct:w.cell? ⟨sb,60,none⟩=some (.int .i64 0)
 fz:∀i,i<61→w.frozen? ⟨sb,i,none⟩=false
theorem Pre.new (w:World):Pre (w.alloc (.cells zr 127)) w.heap.size 0:=by
 refine ⟨fun i hi=> ?_,?_,fun i hi=> ?_⟩
 ·have:zr[i]? =some (.int .i64 0):=by rw [zr,Array.getElem?_replicate,if_pos (by omega)]
  simp [this]
 ·have:zr[60]? =some (.int .i64 0):=by rw [zr,Array.getElem?_replicate,if_pos (by omega)]
  simp [this]
 ·simp
theorem Pre.set {w:World} {sb k:Nat} (h:Pre w sb k) (hk:k<60):Pre (w.setCell ⟨sb,k,none⟩ (.int .i64 (-1))) sb (k+1):=by
 refine ⟨fun i hi=> ?_,zak h.ct (by show 60≠k;omega),fun i hi=>by simpa using h.fz i hi⟩
 by_cases e:i=k
 ·subst e
  rw [World.cell?_setCell_same _ _ _ (h.cb i hi),if_pos (by omega)]
 ·rw [zak (h.cb i hi) e]
  by_cases e2:i<k
  ·rw [if_pos e2,if_pos (by omega)]
  ·rw [if_neg e2,if_neg (by omega)]
theorem Pre.ref {w:World} {sb:Nat} (h:Pre w sb 60):Ref w sb sb newS:=
 ⟨Inv.new,fun i hi=>by rw [h.cb i hi,if_pos hi];rfl,h.ct,h.fz,Nat.le_refl _⟩
theorem zsw (w:World):Calls Tryz.prog 60 #[] w fun e w'=>e= .returned (.pointer (some ⟨w.heap.size,0,none⟩))∧Ref w' w.heap.size w.heap.size newS∧Below w.heap.size w w':=by
 have hP:=Pre.new w
 have hb:Below w.heap.size w (w.alloc (.cells zr 127)):=(Below.refl _ _).alloc (Nat.le_refl _) _
 have hz:=zCc
 generalize zr=z at hP hb hz
 go_enter Tryz.func60,Tryz.ntmps60
 go_wp2_with fail
 clear hz
 generalize w.alloc (.cells z 127)=W at hP hb ⊢
 go_loopg [2] 60 (fun gk s2 wr=>∃k:Nat,gk+k=60∧s2= .int .i64 k∧Pre wr w.heap.size k∧Below w.heap.size w wr)
 case atStart=>exact ⟨0,rfl,rfl,hP,hb⟩
 case round=>
  clear hP hb
  obtain ⟨k,hk,rfl,hP,hb⟩:=hrel
  have HK:Hid (gk+k=60):=hk
  clear hk
  by_cases g:(k:Int)<60
  ·have c:=hP.cb k (by omega)
   have f:=hP.fz k (by omega)
   have hP2:=hP.set (show k<60 by omega)
   have hb2:Below w.heap.size w (wr.setCell ⟨w.heap.size,k,none⟩ (.int .i64 (-1))):=hb.trans (((Off.refl (fun j=>j=w.heap.size) wr).setCell (a:=⟨w.heap.size,k,none⟩) rfl (.int .i64 (-1))).below (fun j e=>by rw [e];exact Nat.le_refl _) hb.size)
   go_wp2_with fail
   go_roundg (60-(k+1))
   case measure=>have:=HK.out;omega
   case rel=>exact ⟨k+1,by have:=HK.out;omega,by go_num,hP2,hb2⟩
  ·have e:k=60:=by have:=HK.out;omega
   subst e
   go_wp2_with fail
   go_ret
   exact ⟨rfl,hP.ref,hb⟩
theorem zox {w:World} {B sb:Nat} {s:St} (h:Ref w B sb s):Calls Tryz.prog 61 #[.pointer (some ⟨sb,0,none⟩)] w fun e w'=>e= .returned (.int .i64 (rdy s:Int))∧∃m,w'=w.drewN m:=by
 have ht:=h.inv.t
 have c0:=h.ct
 have HS:Hid (∀n,n<60-s.tk→(∀i,i<n→s.cm (s.tk+i)=true)→s.cm (s.tk+n)=false→(rdy s:Int)=n):=by
  show∀n,_→_→_→_
  intro n h1 h2 h3
  rw [rdy,zgl _ _ _ n h2 h1 h3]
 have HA:Hid ((∀i,i<60-s.tk→s.cm (s.tk+i)=true)→(rdy s:Int)=((60-s.tk:Nat):Int)):=by
  show _→_
  intro h1
  rw [rdy,zjs _ _ _ h1]
 obtain ⟨r,hr⟩:∃r:Int,(rdy s:Int)=r:=⟨_,rfl⟩
 rw [hr]
 rw [hr] at HS HA
 clear hr
 have HC:Hid (∀i,i<60→w.cell? ⟨sb,i,none⟩=some (.int .i64 (val s i))):=h.cb
 have HB:=h.inv.b
 have HV:Hid (∀i,(s.cm i=true→0≤val s i)∧(s.cm i=false→val s i= -1)):=by
  show∀i,_
  intro i
  exact ⟨fun e=>by rw [zlm e];exact (HB i).1,fun e=>zy7 e⟩
 clear h HB
 generalize hT:s.tk=T at *
 generalize val s=vl at HC HV
 generalize s.cm=cm at HS HA HV
 clear hT
 go_enter Tryz.func61,Tryz.ntmps61
 go_wp2_with fail
 go_loopg [3] (60-T) (fun gk s3 wr=>∃k m:Nat,gk+k=60-T∧s3= .int .i64 k∧Hid (∀i,i<k→cm (T+i)=true)∧Hid (wr=w.drewN m))
 case atStart=>exact ⟨0,0,rfl,rfl,(show∀i,i<0→cm (T+i)=true from fun i hi=>by omega),rfl⟩
 case round=>
  obtain ⟨k,m,hk,rfl,hE,HW⟩:=hrel
  have HK:Hid (gk+k=60-T):=hk
  clear hk
  have d0:wr.cell? ⟨sb,60,none⟩=some (.int .i64 (T:Int)):=by rw [HW.out];exact c0
  have HW2:Hid (∀q,∃m,wr.drewN q=w.drewN m):=by show∀q,_;intro q;rw [HW.out,World.drewN_drewN];exact ⟨_,rfl⟩
  have u1:=wrap_small ((T:Int)+(k:Int)) (by have:=HK.out;omega) (by have:=HK.out;omega)
  by_cases g:(T:Int)+(k:Int)<60
  ·have x1:wr.cell? ⟨sb,T+k,none⟩=some (.int .i64 (vl (T+k))):=by rw [HW.out];exact HC.out (T+k) (by omega)
   cases hc:cm (T+k) with
   | true=>
    have hv:=(HV.out (T+k)).1 hc
    generalize vl (T+k)=y at x1 hv
    have HE:Hid (∀i,i<k+1→cm (T+i)=true):=by
     show∀i,_→_
     intro i hi
     by_cases e:i=k
     ·rw [e];exact hc
     ·exact hE.out i (by omega)
    clear hc hE
    go_wp2_with fail
    go_quiet (fail)
    go_wp2_with fail
    go_roundg (60-T-(k+1))
    case measure=>have:=HK.out;omega
    case rel=>
     obtain ⟨m2,e2⟩:=HW2.out _
     exact ⟨k+1,m2,by have:=HK.out;omega,by go_num,HE,e2⟩
   | false=>
    have hv:=(HV.out (T+k)).2 hc
    rw [hv] at x1
    have HR:Hid (r=(k:Int)):=HS.out k (by omega) hE.out hc
    clear hc hE hv
    go_wp2_with fail
    go_quiet (fail)
    go_wp2_with fail
    go_ret
    exact ⟨by rw [HR.out];rfl,HW2.out _⟩
  ·have HR:Hid (r=(k:Int)):=by
    have e:(60-T:Nat)=k:=by have:=HK.out;omega
    have:=HA.out fun i hi=>hE.out i (by omega)
    rw [e] at this
    exact this
   have g':decide ((T:Int)+(k:Int)<60)=false:=decide_eq_false g
   go_wp2_with fail
   go_quiet (fail)
   go_wp2_with fail
   go_ret
   exact ⟨by rw [HR.out];rfl,HW2.out _⟩
theorem zod {w:World} {B sb:Nat} {s:St} (h:Ref w B sb s):Calls Tryz.prog 61 #[.pointer (some ⟨sb,0,none⟩)] w fun e w'=>e= .returned (.int .i64 (rdy s:Int))∧Below w.heap.size w w':=
 (zox h).mono fun e w' ⟨h1,m,h2⟩=>⟨h1,by rw [h2];exact below_drewN (Below.refl _ _) m⟩
theorem zpm {z:Int} (h0:0≤z) (h1:z≤255) (w:World):(convert 5 3 (.int .u8 z)).run Tryz.prog w= .ok (.int .i64 z) w:=by
 have:=wrap_small z (by omega) (by omega)
 have u1:=Tryz.underlying5
 have u2:=Tryz.underlying3
 go_simp
theorem zxp {z:Int} (h0:0≤z) (h1:z≤255) (w:World):(convert 3 5 (.int .i64 z)).run Tryz.prog w= .ok (.int .u8 z) w:=by
 have u1:=Tryz.underlying5
 have u2:=Tryz.underlying3
 have:IntKind.u8.wrap z=z:=by simp [IntKind.wrap,IntKind.bits,IntKind.signed];omega
 go_simp
theorem zDm {w:World} {B sb:Nat} {s:St} (h:Ref w B sb s) (p:Int) (d:ByteArray) (h0:p<0):Calls Tryz.prog 68 #[.pointer (some ⟨sb,0,none⟩),.int .i64 p,.string d] w fun e w'=>e= .returned (.int .i64 1)∧RTurned w w' B sb s:=by
 go_enter Tryz.func68,Tryz.ntmps68
 go_wp2_with fail
 go_ret
 exact ⟨rfl,RTurned.same h⟩
theorem zD0 {w:World} {B sb:Nat} {s:St} (h:Ref w B sb s) (p:Int) (d:ByteArray) (h0:60<p):Calls Tryz.prog 68 #[.pointer (some ⟨sb,0,none⟩),.int .i64 p,.string d] w fun e w'=>e= .returned (.int .i64 1)∧RTurned w w' B sb s:=by
 go_enter Tryz.func68,Tryz.ntmps68
 go_wp2_with fail
 go_ret
 exact ⟨rfl,RTurned.same h⟩
theorem zyl {w:World} {B sb:Nat} {s:St} (h:Ref w B sb s) (p:Int) (d:ByteArray) (h0:0≤p) (h1:p≤60) (h2:60<p+(d.size:Int)) (hd:d.size≤140737488351232):Calls Tryz.prog 68 #[.pointer (some ⟨sb,0,none⟩),.int .i64 p,.string d] w fun e w'=>e= .returned (.int .i64 4)∧RTurned w w' B sb s:=by
 go_enter Tryz.func68,Tryz.ntmps68
 go_wp2_with fail
 go_ret
 exact ⟨rfl,RTurned.same h⟩
theorem zs8 {w:World} {B sb:Nat} {s:St} (h:Ref w B sb s) (a:Nat) (d:ByteArray) (hd:a+d.size≤60) (hc:clB s a d=true):Calls Tryz.prog 68 #[.pointer (some ⟨sb,0,none⟩),.int .i64 (a:Int),.string d] w fun e w'=>e= .returned (.int .i64 7)∧RTurned w w' B sb s:=by
 have HO:Hid (Ref w B sb s):=h
 have HCB:Hid (clB s a d=true):=hc
 have q0:¬((a:Int)<0):=by omega
 have q1:¬((60:Int)<(a:Int)):=by omega
 have u0:=wrap_small ((a:Int)+(d.size:Int)) (by omega) (by omega)
 have q2:¬((60:Int)<(a:Int)+(d.size:Int)):=by omega
 clear h hc
 go_enter Tryz.func68,Tryz.ntmps68
 go_wp2_with fail
 clear q0 q1 q2 u0
 go_loopg [7] d.size (fun gk s7 wr=>∃k:Nat,gk+k=d.size∧s7= .int .i64 k∧Hid (∀i,i<k→cl s a d i=false)∧Below w.heap.size w wr)
 case atStart=>exact ⟨0,rfl,rfl,(show∀i,i<0→cl s a d i=false from fun i hi=>by omega),Below.refl _ _⟩
 case round=>
  obtain ⟨k,hk,rfl,hE,hW⟩:=hrel
  have HK:Hid (gk+k=d.size):=hk
  clear hk
  by_cases g:(k:Int)<(d.size:Int)
  ·have x0:=(HO.out.below hW).cb (a+k) (by omega)
   have hix:=fun w=>zco (d:=d) (k:=k) (by omega) w
   have hcv:=zpm (zcm d k).1 (zcm d k).2
   have u1:=wrap_small ((a:Int)+(k:Int)) (by omega) (by omega)
   have HN:Hid (cl s a d k=false→∀i,i<k+1→cl s a d i=false):=by
    show _→_
    intro hc i hi
    by_cases e:i=k
    ·rw [e];exact hc
    ·exact hE.out i (by omega)
   have HY:Hid (cl s a d k=true→clB s a d=true):=fun hc=>zmx (by omega) hc
   have HC:Hid (cl s a d k=(s.cm (a+k) && (s.byt (a+k) !=bat d k))):=rfl
   have HB:=(HO.out.inv.b (a+k)).1
   clear hE
   cases hcm:s.cm (a+k) with
   | false=>
    have hc:cl s a d k=false:=by rw [HC.out,hcm];rfl
    have HM:Hid (∀i,i<k+1→cl s a d i=false):=HN.out hc
    rw [zy7 hcm] at x0
    clear HN HY HC hc hcm HB
    generalize bat d k=z at hix hcv
    go_wp2_with fail
    go_quiet (fail)
    go_wp2_with fail
    go_roundg (d.size-(k+1))
    case measure=>have:=HK.out;omega
    case rel=>exact ⟨k+1,by have:=HK.out;omega,by go_num,HM,below_drewN hW _⟩
   | true=>
    rw [zlm hcm] at x0
    rw [hcm] at HC
    clear hcm
    generalize s.byt (a+k)=y at x0 HC HB
    generalize bat d k=z at hix HC hcv
    by_cases e:y=z
    ·subst e
     have hc:cl s a d k=false:=by rw [HC.out];simp
     have HM:Hid (∀i,i<k+1→cl s a d i=false):=HN.out hc
     clear HN HY HC hc
     go_wp2_with fail
     go_quiet (fail)
     go_wp2_with fail
     go_roundg (d.size-(k+1))
     case measure=>have:=HK.out;omega
     case rel=>exact ⟨k+1,by have:=HK.out;omega,by go_num,HM,below_drewN hW _⟩
    ·have hc:cl s a d k=true:=by rw [HC.out];simp [e]
     have HM:Hid (clB s a d=true):=HY.out hc
     clear HN HY HC hc
     go_wp2_with fail
     go_quiet (fail)
     go_wp2_with fail
     go_ret
     exact ⟨rfl,RTurned.below HO.out (below_drewN hW _)⟩
  ·have HM:Hid (clB s a d=false):=zo7 fun i hi=>hE.out i (by omega)
   clear hE
   have:=HM.out
   rw [HCB.out] at this
   cases this
theorem zzi {w:World} {B sb:Nat} {s:St} (h:Ref w B sb s) (a:Nat) (d:ByteArray) (hd:a+d.size≤60) (hc:clB s a d=false):Calls Tryz.prog 68 #[.pointer (some ⟨sb,0,none⟩),.int .i64 (a:Int),.string d] w fun e w'=>e= .returned (.int .i64 0)∧RTurned w w' B sb (upS s a d d.size):=by
 have HO:Hid (Ref w B sb s):=h
 have HCB:Hid (clB s a d=false):=hc
 have q0:¬((a:Int)<0):=by omega
 have q1:¬((60:Int)<(a:Int)):=by omega
 have u0:=wrap_small ((a:Int)+(d.size:Int)) (by omega) (by omega)
 have q2:¬((60:Int)<(a:Int)+(d.size:Int)):=by omega
 clear h hc
 go_enter Tryz.func68,Tryz.ntmps68
 go_wp2_with fail
 clear q0 q1 q2 u0
 go_loopg [7] d.size (fun gk s7 wr=>∃k:Nat,gk+k=d.size∧s7= .int .i64 k∧Hid (∀i,i<k→cl s a d i=false)∧Below w.heap.size w wr)
 case atStart=>exact ⟨0,rfl,rfl,(show∀i,i<0→cl s a d i=false from fun i hi=>by omega),Below.refl _ _⟩
 case round=>
  obtain ⟨k,hk,rfl,hE,hW⟩:=hrel
  have HK:Hid (gk+k=d.size):=hk
  clear hk
  by_cases g:(k:Int)<(d.size:Int)
  ·have x0:=(HO.out.below hW).cb (a+k) (by omega)
   have hix:=fun w=>zco (d:=d) (k:=k) (by omega) w
   have hcv:=zpm (zcm d k).1 (zcm d k).2
   have u1:=wrap_small ((a:Int)+(k:Int)) (by omega) (by omega)
   have HN:Hid (cl s a d k=false→∀i,i<k+1→cl s a d i=false):=by
    show _→_
    intro hc i hi
    by_cases e:i=k
    ·rw [e];exact hc
    ·exact hE.out i (by omega)
   have HY:Hid (cl s a d k=true→clB s a d=true):=fun hc=>zmx (by omega) hc
   have HC:Hid (cl s a d k=(s.cm (a+k) && (s.byt (a+k) !=bat d k))):=rfl
   have HB:=(HO.out.inv.b (a+k)).1
   clear hE
   cases hcm:s.cm (a+k) with
   | false=>
    have hc:cl s a d k=false:=by rw [HC.out,hcm];rfl
    have HM:Hid (∀i,i<k+1→cl s a d i=false):=HN.out hc
    rw [zy7 hcm] at x0
    clear HN HY HC hc hcm HB
    generalize bat d k=z at hix hcv
    go_wp2_with fail
    go_quiet (fail)
    go_wp2_with fail
    go_roundg (d.size-(k+1))
    case measure=>have:=HK.out;omega
    case rel=>exact ⟨k+1,by have:=HK.out;omega,by go_num,HM,below_drewN hW _⟩
   | true=>
    rw [zlm hcm] at x0
    rw [hcm] at HC
    clear hcm
    generalize s.byt (a+k)=y at x0 HC HB
    generalize bat d k=z at hix HC hcv
    by_cases e:y=z
    ·subst e
     have hc:cl s a d k=false:=by rw [HC.out];simp
     have HM:Hid (∀i,i<k+1→cl s a d i=false):=HN.out hc
     clear HN HY HC hc
     go_wp2_with fail
     go_quiet (fail)
     go_wp2_with fail
     go_roundg (d.size-(k+1))
     case measure=>have:=HK.out;omega
     case rel=>exact ⟨k+1,by have:=HK.out;omega,by go_num,HM,below_drewN hW _⟩
    ·have hc:cl s a d k=true:=by rw [HC.out];simp [e]
     have HM:Hid (clB s a d=true):=HY.out hc
     clear HN HY HC hc
     have:=HM.out
     rw [HCB.out] at this
     cases this
  ·have HM:Hid (clB s a d=false):=zo7 fun i hi=>hE.out i (by omega)
   clear hE
   have HO2:Hid (Ref wr B sb (upS s a d 0)):=by show Ref _ _ _ _;rw [zlj];exact HO.out.below hW
   have HW2:Hid (Below w.heap.size w wr):=hW
   clear hW HM HCB
   go_wp2_with fail
   clear g
   go_loopg [8] d.size (fun gk s8 wx=>∃k:Nat,gk+k=d.size∧s8= .int .i64 k∧Ref wx B sb (upS s a d k)∧Off (fun j=>j=sb) wr wx)
   case atStart=>exact ⟨0,rfl,rfl,HO2.out,Off.refl _ _⟩
   case round=>
    clear HK
    obtain ⟨k,hk,rfl,hO,hX⟩:=hrel
    have HK:Hid (gk+k=d.size):=hk
    clear hk
    by_cases g:(k:Int)<(d.size:Int)
    ·have x0:=hO.cb (a+k) (by omega)
     have f0:=hO.fz (a+k) (by omega)
     have hix:=fun w=>zco (d:=d) (k:=k) (by omega) w
     have hcv:=zpm (zcm d k).1 (zcm d k).2
     have u1:=wrap_small ((a:Int)+(k:Int)) (by omega) (by omega)
     have hO2:=hO.up (show a+k<60 by omega)
     have HX2:=(hX.setCell (a:=⟨sb,a+k,none⟩) rfl (.int .i64 (bat d k))).drew
     generalize bat d k=z at hix hcv hO2 HX2
     go_wp2_with fail
     go_region
     go_wp2_with fail
     go_roundg (d.size-(k+1))
     case measure=>have:=HK.out;omega
     case rel=>exact ⟨k+1,by have:=HK.out;omega,by go_num,hO2,HX2⟩
    ·have e:k=d.size:=by have:=HK.out;omega
     subst e
     go_wp2_with fail
     go_ret
     exact ⟨rfl,hO,(Off.of_below HW2.out).trans hX⟩
theorem zt2 {w:World} {B sb:Nat} {s:St} (h:Ref w B sb s) (p:Int) (d:ByteArray) (hd:d.size≤140737488351232):Calls Tryz.prog 68 #[.pointer (some ⟨sb,0,none⟩),.int .i64 p,.string d] w fun e w'=>e= .returned (.int .i64 (putF s p d))∧RTurned w w' B sb (putS s p d):=by
 cases hp:zdh p with
 | false=>
  rw [zf9 (by rw [zej hp];decide),zej hp]
  have:=of_decide_eq_false hp
  by_cases h0:p<0
  ·exact zDm h p d h0
  ·exact zD0 h p d (by omega)
 | true=>
  obtain ⟨p0,p1⟩:0≤p∧p≤60:=of_decide_eq_true hp
  by_cases h2:60<p+(d.size:Int)
  ·rw [zf9 (by rw [zfb hp h2];decide),zfb hp h2];exact zyl h p d p0 p1 h2 hd
  ·obtain ⟨a,rfl⟩:∃a:Nat,p=(a:Int):=⟨p.toNat,by omega⟩
   cases hc:clB s a d with
   | true=>
    have e:=zh8 (s:=s) (d:=d) hp (by omega) (by simpa using hc)
    rw [zf9 (by rw [e];decide),e];exact zs8 h a d (by omega) hc
   | false=>
    have e:=zir (s:=s) (d:=d) hp (by omega) (by simpa using hc)
    rw [ziw e,e];exact zzi h a d (by omega) hc
theorem zam {P:Program} {ops:Array Oper} {o:Oper} {a:Act} {w:World} {K:Act→World→Prop} {Q:Exit→Act→World→Prop} {E:Prop}
  (hg:o.guard=none) (s x:Operand) (t:TypeId) (hop:o.op=Op.call {callee:=Callee.builtin Builtin.append,args:= #[s,x],argTypes:= #[t,t]})
  (base:Nat) (e:TypeId) (i:TypeInfo) (z:Value) (size bytes:Nat) (h1:P.underlying t=some (.slice e)) (h2:P.info? e=some i) (h3:i.zero=some z) (h4:i.size=size) (h5:i.bytes=bytes) (h6:z.cells.size=size) (h7:0<size)
  (v:Value) (n:Nat) (xs:List Value) (hs:a.eval s=v) (hown:w.ownsRow base e size v n xs)
  (ad:Addr) (m c:Nat) (news:List Value) (hx:a.eval x= .slice (some ad) m c) (hn:news.length=m*size) (hc:∀j u,news[j]? =some u→w.cell? (ad.add j)=some u) (h1c:∀u∈news,u.oneCell'=true)
  (b1:n+m≤maxLen) (b2:(n+m)*bytes≤140737488355328) (hbase:base≤w.heap.size)
  (hK:∀v' w',w'.ownsRow base e size v' (n+m) (xs++news)→w.grownBy w' v.ownBlock→(v'.ownBlock=v.ownBlock∨v'.ownBlock=some w.heap.size)→K (a.put o.dst v') w'):
  if Region.wanted o (yielded ops a.tmps)=true then Oper.wp P o a w K Q else E:=by
 have hw:Region.wanted o (yielded ops a.tmps)=true:=by simp [Region.wanted,hg]
 rw [if_pos hw]
 obtain ⟨v',w',hrun,r1,r2,_,r4⟩:=run_append_own_at (P:=P) w base t o.type e i z size bytes h1 h2 h3 h4 h5 h6 h7 v n xs hown ad m c news hn hc h1c b1 b2 hbase
 unfold Oper.wp
 simp [execOp,hop,resolve,invoke,builtin,hs,hx,hrun,Result.andThen]
 exact hK v' w' r1 r2 r4
theorem zIq:(Tryz.prog.info? 5).map (fun i=>(i.zero,i.size,i.bytes))=some (some (.int .u8 0),1,1):=by kernel_rfl
def bys (s:St) (k:Nat):List Value:=(List.range k).map fun i=>Value.int .u8 (s.byt (s.tk+i))
theorem zAh (s:St) (k:Nat):bys s (k+1)=bys s k++ [.int .u8 (s.byt (s.tk+k))]:=by simp [bys,List.range_succ]
theorem zA5 (s:St) (n:Int):bys s (takeN s n)=(zc2 s n).map (Value.int .u8):=by simp [bys,zc2]
theorem ztf {w:World} {base:Nat} {v:Value} {n:Nat} {xs:List Value} (h:w.ownsRow base 5 1 v n xs) (hn:n≠0):∃g cap,v= .slice (some ⟨g,0,none⟩) n cap:=by
 rcases h.2 with ⟨rfl,h0⟩ | ⟨g,cap,cur,rfl,_⟩
 ·exact absurd h0 hn
 ·exact ⟨g,cap,rfl⟩
theorem cell_one_new (w:World) (y:Value) (t:TypeId):∀j u,[y][j]? =some u→(w.alloc (.cells #[y] t)).cell? ((⟨w.heap.size,0,none⟩:Addr).add j)=some u:=by
 intro j u hj
 match j,hj with
 | 0,hj=>simp at hj;subst hj;simp [Addr.add]
 | j+1,hj=>simp at hj
theorem zz7 {wr:World} {base sb k c:Nat} {ao:Option Addr} {L:List Int} (hown:wr.ownsRow base 5 1 (.slice ao k c) k (L.map (Value.int .u8))) (hsb:sb<base) (u:Value):
  (convert 96 9 (.slice ao k c)).run Tryz.prog (wr.setCell ⟨sb,60,none⟩ u)= .ok (.string (strOfNums L)) (wr.setCell ⟨sb,60,none⟩ u):=by
 have hl:L.length=k:=by have:=hown.1;simp at this;omega
 rcases hown.2 with ⟨e,h0⟩ | ⟨g,cap,cur,e,hb,hg,hr⟩
 ·injection e with e1 e2 e3
  subst e1
  have:L= []:=List.eq_nil_of_length_eq_zero (by omega)
  subst this
  exact run_convert_bytes_nil _ 96 5 Tryz.underlying96 Tryz.underlying5 k c 9 Tryz.underlying9
 ·injection e with e1 e2 e3
  subst e1
  refine run_convert_bytes_arg _ 96 5 Tryz.underlying96 Tryz.underlying5 g 0 k c L hl (fun i hi=> ?_) 9 Tryz.underlying9
  have hi':i<L.length:=by omega
  have hc:=hown.cells (g:=g) rfl i (.int .u8 (L.getD i 0)) (by simp [hi'])
  rw [Addr.add_lit] at hc
  rw [World.cell?_setCell_other _ _ _ _ (by intro e';injection e' with e' _ _;omega)]
  exact hc
theorem zf6 {w:World} {B sb:Nat} {s:St} (h:Ref w B sb s) (n:Int) (hn:0≤n):Calls Tryz.prog 37 #[.pointer (some ⟨sb,0,none⟩),.int .i64 n] w fun e w'=>e= .returned (.string (strOfNums (zc2 s n)))∧RTurned w w' B sb (zba s n):=by
 have HR:Hid (Ref w B sb s):=h
 have hsb:=h.lt
 have hq:=zod h
 have ht:=h.inv.t
 have HV:Hid (∀i,i<takeN s n→val s (s.tk+i)=s.byt (s.tk+i)):=by
  show∀i,_
  intro i hi
  exact zlm (zrg _ _ _ _ (Nat.lt_of_lt_of_le hi (Nat.min_le_right _ _)))
 have HN:Hid (takeN s n=min n.toNat (rdy s)):=rfl
 have hle:=zgy s n
 have hrl:=zy1 s
 clear h
 go_enter Tryz.func37,Tryz.ntmps37
 go_wp2_with fail
 refine hq.mono ?_
 rintro e w1 ⟨rfl,hb1⟩
 clear hq
 go_upto_if 12 with fail
 go_cut [5] (fun s5 wx=>s5= .int .i64 (takeN s n:Int)∧wx=w1)
 case first=>
  by_cases g:n<(rdy s:Int)
  ·have HE:Hid (n=(takeN s n:Int)):=by show _=_;rw [HN.out];omega
   go_wp2_with fail
   go_meet
   exact ⟨by rw [←HE.out],rfl⟩
  ·have HE:Hid ((rdy s:Int)=(takeN s n:Int)):=by show _=_;rw [HN.out];omega
   go_wp2_with fail
   go_meet
   exact ⟨by rw [HE.out],rfl⟩
 case rest=>
  obtain ⟨rfl,rfl⟩:=hcut
  clear HN hrl
  have HT:Hid (bys s (takeN s n)=(zc2 s n).map (Value.int .u8)):=zA5 s n
  have HZ:Hid (∀z,z=((s.tk+takeN s n:Nat):Int)→∀wx,Ref wx B sb s→Ref (wx.setCell ⟨sb,60,none⟩ (.int .i64 z)) B sb (zba s n)):=fun z hz wx hx=>hx.take hz
  generalize takeN s n=m at *
  obtain ⟨i0,hi0,hz0,hz1,hz2⟩:=info_parts zIq
  go_wp2_with fail
  go_loopg [6,7] m (fun gk s6 s7 wr=>∃(k:Nat) (ao:Option Addr) (c:Nat),gk+k=m∧s6= .slice ao k c∧s7= .int .i64 k∧wr.ownsRow w.heap.size 5 1 (.slice ao k c) k (bys s k)∧Below w.heap.size w wr)
  case atStart=>exact ⟨0,none,0,rfl,rfl,rfl,World.ownsRow_nil _ _ _ _,hb1⟩
  case round=>
   clear hb1
   obtain ⟨k,ao,c,hk,rfl,rfl,hown,hB⟩:=hrel
   have HK:Hid (gk+k=m):=hk
   clear hk
   have hRr:=HR.out.below hB
   have ct:=hRr.ct
   by_cases g:(k:Int)<(m:Int)
   ·have x0:=hRr.cb (s.tk+k) (by omega)
    rw [HV.out k (by omega)] at x0
    have hby:=hRr.inv.b (s.tk+k)
    have hcv:=zxp hby.1 hby.2
    have u1:=wrap_small ((s.tk:Int)+(k:Int)) (by omega) (by omega)
    have v0:(0:Int)≤(s.tk:Int)+(k:Int):=by omega
    have v1:(s.tk:Int)+(k:Int)<60:=by omega
    have v2:((s.tk:Int)+(k:Int)).toNat=s.tk+k:=by omega
    have bd:Below wr.heap.size wr (wr.drew.alloc (.cells #[.int .u8 (s.byt (s.tk+k))] 5)):=(Below.refl wr.heap.size wr).drew.alloc (Nat.le_refl _) _
    have hrow:=own_below hown bd
    have hB2:=hB.trans (bd.mono hB.size)
    have hle2:w.heap.size≤(wr.drew.alloc (.cells #[.int .u8 (s.byt (s.tk+k))] 5)).heap.size:=hB2.size
    have HE:Hid (bys s (k+1)=bys s k++ [.int .u8 (s.byt (s.tk+k))]):=zAh s k
    clear hRr hby
    generalize s.byt (s.tk+k)=y at x0 hcv bd hrow hB2 hle2 HE
    go_wp2_with fail
    go_region_law (refine zam rfl (.tmp 19) (.tmp 32) 96 rfl w.heap.size 5 i0 _ 1 1 Tryz.underlying96 hi0 hz0 hz1 hz2 rfl (by decide) (.slice ao k c) k (bys s k) (by simp [Act.eval,Act.put]) hrow ⟨wr.heap.size,0,none⟩ 1 1 [.int .u8 y] (by simp [Act.eval,Act.put]) rfl (cell_one_new wr.drew _ _) (by intro u hu;simp at hu;subst hu;rfl) (by unfold maxLen;omega) (by omega) hle2 ?_;intro v' w3 ho3 hg3 hl3;obtain ⟨g3,cap3,rfl⟩:=ztf ho3 (by omega))
    all_goals
     have hB3:=hB2.grown hg3 hle2 (fun k e=>(hrow.lt k e).1)
     clear x0 hcv bd hrow hB2 hle2 hg3 hl3 hown ct
     go_wp2_with fail
     go_roundg (m-(k+1))
     case measure=>have:=HK.out;omega
     case rel=>exact ⟨k+1,some ⟨g3,0,none⟩,cap3,by have:=HK.out;omega,rfl,by go_num,by rw [HE.out];exact ho3,hB3⟩
   ·have e:k=m:=by have:=HK.out;omega
    subst e
    rw [HT.out] at hown
    have u1:=wrap_small ((s.tk:Int)+(k:Int)) (by omega) (by omega)
    have hcv:=zz7 hown hsb (.int .i64 ((s.tk:Int)+(k:Int)))
    have f0:=hRr.fz 60 (by omega)
    have hfin:RTurned w (wr.setCell ⟨sb,60,none⟩ (.int .i64 ((s.tk:Int)+(k:Int)))) B sb (zba s n):=
     ⟨HZ.out _ (by omega) _ hRr,((Off.of_below hB).trans ((Off.refl (fun j=>j=sb) wr).setCell (a:=⟨sb,60,none⟩) rfl _))⟩
    have HF:Hid (RTurned w (wr.setCell ⟨sb,60,none⟩ (.int .i64 ((s.tk:Int)+(k:Int)))) B sb (zba s n)):=hfin
    clear hfin hRr hown
    go_wp2_with fail
    go_ret
    exact ⟨rfl,HF.out⟩
end Go.Proofs.YtdnehibcpkjafaaGreatDoor.Sx
