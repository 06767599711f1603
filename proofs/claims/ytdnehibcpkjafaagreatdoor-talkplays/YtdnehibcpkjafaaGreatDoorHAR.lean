/- What TalkPlays needs. -/
import Derived.Test.YtdnehibcpkjafaaGreatDoorHO
import Derived.ProofKit
import Derived.OpenShut
import Derived.LaidMore
import Derived.SizedLaws
import Derived.Deep.Matrix
import Derived.SliceStrings
set_option linter.unusedVariables false
set_option linter.unusedSimpArgs false
set_option maxRecDepth 100000
set_option maxHeartbeats 8000000
namespace Go.Proofs.YtdnehibcpkjafaaGreatDoor.Ar
open Go.ChangeShapes Go.WideShapes Go.ChangeAt Go.RowKit
def iat (zs:List Int) (j:Nat):Int:=zs[j]?.getD 0
def wf64 (n:Int):Prop:=(Lit.int .i64 n).wf=true
def Ints (w:World) (ao:Option Addr) (zs:List Int):Prop:=zs.length≤9223372036854775807∧(∀n∈zs,wf64 n)∧(zs= []∨∃b off,ao=some ⟨b,off,none⟩∧b<w.heap.size∧∀j,j<zs.length→w.cell? ⟨b,off+j,none⟩=some (.int .i64 (iat zs j)))
def Steps (w:World) (b off len:Nat):Prop:=b<w.heap.size∧len≤9223372036854775807∧∀r,r<len→∃ao c zs,w.cell? ⟨b,off+r,none⟩=some (.slice ao zs.length c)∧Ints w ao zs
def zli (w:World) (v:Value):Prop:=∃ao len c,v= .slice ao len c∧(len=0∨∃b off,ao=some ⟨b,off,none⟩∧Steps w b off len)
theorem zh2 {W:World} {x:Addr} {v:Value} (h:W.cell? (x.add 0)=some v):∃b off,x=⟨b,off,none⟩∧b<W.heap.size:=by
 obtain ⟨b,off,s⟩:=x
 cases s with
 | none=>
  refine ⟨b,off,rfl,?_⟩
  rw [Addr.add_lit] at h
  exact World.block_lt_of_cell? W _ h
 | some s=>
  simp [World.cell?,Addr.add] at h
  split at h<;>simp_all
theorem zwk {H:Type} {enc:TypeId×Value→H} {W:World} {a:Option Addr} {len cap:Nat} {d:DataW H} {ps:List MemPlace} (h:DataW.Trod enc Tryz.prog W 0 (fun _=>true) true 22 (.slice a len cap) d ps):zli W (.slice a len cap):=by
 obtain ⟨fuel,hf⟩:=h
 rcases Go.Deep.open_int_rows Tryz.underlying22 Tryz.underlying35 Tryz.underlying3 (by kernel_rfl) (by kernel_rfl) hf with ⟨hcs,_⟩ | ⟨y,l,c,A,L,C,Z,hcs,_,hl,hm,_,hx⟩
 ·simp [Value.cells] at hcs
  obtain ⟨rfl,rfl,rfl⟩:=hcs
  exact ⟨none,0,0,rfl,.inl rfl⟩
 ·simp [Value.cells] at hcs
  obtain ⟨rfl,rfl,rfl⟩:=hcs
  by_cases h0:len=0
  ·exact ⟨_,_,_,rfl,.inl h0⟩
  ·obtain ⟨b,off,rfl,hb⟩:=zh2 (hx 0 (by omega)).1
   refine ⟨_,_,_,rfl,.inr ⟨b,off,rfl,hb,Nat.le_trans hl hm,fun r hr=> ?_⟩⟩
   obtain ⟨c1,c2,c3,c4,c5,c6,c7⟩:=hx r (by omega)
   rw [Addr.add_lit] at c1
   have hlen:((Z r).take (L r)).length=L r:=by simp;omega
   refine ⟨A r,C r,(Z r).take (L r),by rw [hlen];exact c1,by rw [hlen];exact Nat.le_trans c2 c3,fun n hn=>c5 n (List.mem_of_mem_take hn),?_⟩
   by_cases hL:L r=0
   ·left;rw [hL];rfl
   ·right
    cases hA:A r with
    | none=>have:=c6 hA;omega
    | some a'=>
     obtain ⟨_,hc⟩:=c7 a' hA
     obtain ⟨b',off',rfl,hb'⟩:=zh2 (hc 0 (by omega))
     refine ⟨b',off',rfl,hb',fun j hj=> ?_⟩
     rw [hlen] at hj
     have:=hc j (by omega)
     rw [Addr.add_lit] at this
     rw [this]
     simp [iat,List.getD,List.getElem?_take,hj]
theorem zy2 {w wr:World} {b off len:Nat} (h:Steps w b off len) (hb:Below w.heap.size w wr) {k:Nat} (hk:k<len):∃ar cr zs,wr.cell? ⟨b,off+k,none⟩=some (.slice ar zs.length cr)∧Ints w ar zs:=by
 obtain ⟨ar,cr,zs,h1,h2⟩:=h.2.2 k hk
 exact ⟨ar,cr,zs,(hb.cell (p:=⟨b,off+k,none⟩) h.1).trans h1,h2⟩
def zu7 (w:World) (b off len:Nat):Prop:=b<w.heap.size∧∀r,r<len→∃d:ByteArray,w.cell? ⟨b,off+r,none⟩=some (.string d)∧d.size≤140737488351232
def zm4 (w:World) (v:Value):Prop:=∃ao len c,v= .slice ao len c∧len≤9223372036854775807∧(len=0∨∃b off,ao=some ⟨b,off,none⟩∧zu7 w b off len)
theorem zi8 {H:Type} {P:Program} {e:TypeId}:∀ {l:List (DataW H)} {d:DataW H},d∈l→∀n∈d.weights P e,n∈DataW.weightsAll P e l
 | d0::r,d,h,n,hn=>by
  simp only [DataW.weightsAll,List.mem_append]
  rcases List.mem_cons.1 h with rfl | h
  ·exact .inl hn
  ·exact .inr (zi8 h n hn)
theorem ztk {H:Type} {enc:TypeId×Value→H} {W:World} {a:Option Addr} {len cap:Nat} {d:DataW H} {ps:List MemPlace} (h:DataW.Trod enc Tryz.prog W 0 (fun _=>true) true 23 (.slice a len cap) d ps) (hw:∀n∈d.weights Tryz.prog 23,n≤reachBytes):zm4 W (.slice a len cap):=by
 obtain ⟨fuel,hf⟩:=h
 rcases open_strings Tryz.underlying23 Tryz.underlying9 (by kernel_rfl) hf with ⟨hcs,_⟩ | ⟨y,l,c,ss,hcs,_,hl,hm,hz,hx,hcell,_⟩
 ·simp [Value.cells] at hcs
  obtain ⟨rfl,rfl,rfl⟩:=hcs
  exact ⟨none,0,0,rfl,by omega,.inl rfl⟩
 ·simp [Value.cells] at hcs
  obtain ⟨rfl,rfl,rfl⟩:=hcs
  have hz:ss.length=cap:=by simpa using hz
  have hd:d= .slice (strs (ss.take len)) (strs (ss.drop len)):=congrArg Prod.fst hx
  subst hd
  have hlm:len≤9223372036854775807:=Nat.le_trans hl hm
  by_cases h0:len=0
  ·exact ⟨_,_,_,rfl,hlm,.inl h0⟩
  ·obtain ⟨b,off,rfl,hb⟩:=zh2 (hcell 0 (by omega))
   refine ⟨_,_,_,rfl,hlm,.inr ⟨b,off,rfl,hb,fun r hr=> ?_⟩⟩
   have hc:=hcell r (by omega)
   rw [Addr.add_lit] at hc
   refine ⟨_,hc,?_⟩
   have hr':r<ss.length:=by omega
   have hmem:(DataW.lit (.string (ss[r]).data.toList):DataW H)∈strs (ss.take len):=by
    unfold strs
    refine List.mem_map.2 ⟨ss[r],?_,rfl⟩
    refine List.mem_iff_getElem.2 ⟨r,by simp;omega,by simp⟩
   have:=hw (ss[r]).data.toList.length (by
    simp only [DataW.weights,Tryz.underlying23,List.mem_cons,List.mem_append]
    refine .inr (.inl (zi8 hmem _ ?_))
    simp [DataW.weights])
   have e2:reachBytes=140737488351232:=by decide
   rw [e2] at this
   simpa [List.getD,hr'] using this
end Go.Proofs.YtdnehibcpkjafaaGreatDoor.Ar
