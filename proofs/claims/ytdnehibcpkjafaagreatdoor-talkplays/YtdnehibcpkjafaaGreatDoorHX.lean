/- What TalkPlays needs. -/
import Derived.Test.YtdnehibcpkjafaaGreatDoorHU
import Derived.Test.YtdnehibcpkjafaaGreatDoorHLK
set_option linter.unusedVariables false
set_option linter.unusedSimpArgs false
set_option maxRecDepth 100000
set_option maxHeartbeats 8000000
namespace Go.Proofs.YtdnehibcpkjafaaGreatDoor
open Go.RowKit Go.Lib Go.Sort
open Sx (bat)
theorem zCq:∀(k:Nat) (s:ByteArray) (l:List F),s.size≤k→rdL s=some l→∀f∈l,fF f=0:=by
 intro k
 induction k with
 | zero=>
  intro s l hs h f hf
  rw [zkb (by omega)] at h
  cases h
  simp at hf
 | succ k ih=>
  intro s l hs h f hf
  by_cases h0:s.size=0
  ·rw [zkb h0] at h
   cases h
   simp at hf
  ·cases h1:rdF s with
   | none=>rw [zlx h0 h1] at h;cases h
   | some fn=>
    obtain ⟨g,n⟩:=fn
    obtain ⟨g0,g1,g2⟩:=zj8 (L:= []) h1
    rw [ziy h0 h1] at h
    cases h2:rdL (s.extract n s.size) with
    | none=>rw [h2] at h;cases h
    | some l'=>
     rw [h2] at h
     simp only [Option.map_some,Option.some.injEq] at h
     subst h
     rcases List.mem_cons.1 hf with rfl | hf
     ·exact g0
     ·exact ih (s.extract n s.size) l' (by rw [ByteArray.size_extract];omega) h2 f hf
theorem zH6 {s:ByteArray} {next n:Int} {l:List F} (h:rdP s next=some (n,l)):∀f∈l,fF f=0:=by
 obtain ⟨c,_,h2⟩:=zj6 h
 unfold fin at h2
 cases h3:rdL (s.extract c s.size) with
 | none=>rw [h3] at h2;cases h2
 | some l'=>
  rw [h3] at h2
  simp only [Option.bind_some] at h2
  split at h2
  ·cases h2
  ·cases h2
   exact zCq _ _ _ (Nat.le_refl _) h3
theorem zws {s:ByteArray} {next n:Int} {l:List F} (h:rdP s next=some (n,l)):∀f∈l,f.1=2→AckC f.2.1:=by
 intro f hf h2
 have h0:=zH6 h f hf
 obtain ⟨k,ns,d⟩:=f
 simp only at h2
 subst h2
 obtain ⟨_,_,h3,_⟩:=zdj h0
 have hd:d=nilB:=by
  have:=h3 (show (2:Int)≠3 by decide)
  apply ByteArray.ext
  exact Array.eq_empty_of_size_eq_zero this
 subst hd
 exact zBj h0
theorem zpy {f:F} (h:fF f=0):(fS f).size=1+(mid f.1 f.2.1 f.2.2).length+f.2.2.size:=by
 have h1:=congrArg List.length (zgn (k:=f.1) (ns:=f.2.1) (d:=f.2.2) h)
 rw [zaa] at h1
 unfold fS
 rw [h1]
 unfold frB
 rw [List.cons_append,List.length_cons,List.length_append,zaa]
 omega
theorem zwq {n:Int} (h0:0≤n) (h1:n≤1073741823):Mays [n]:=fun z hz=>by
 simp at hz
 subst hz
 exact ⟨h0,by omega⟩
theorem zrb {cm:List R} (h:chk cm=0) (h0:cm≠ []):fF (2,unr cm,nilB)=0∧(fS (2,unr cm,nilB)).size≤98:=by
 have hg:=(zbv cm).1 h
 have hl:1≤cm.length:=by
  cases cm with
  | nil=>exact absurd rfl h0
  | cons a b=>simp
 have hf:fF (2,unr cm,nilB)=0:=zd5 (show zbk 2=true by decide) (by
  show cntB 2 (unr cm).length=true
  unfold cntB
  rw [if_pos rfl,zb6]
  exact decide_eq_true ⟨by omega,by omega,by have:=hg.1;omega⟩) (fun _=>rfl) (zln hg) (show 0≤20 by omega) (fun _=>by rw [zf5];exact hg)
 refine ⟨hf,?_⟩
 rw [zpy hf]
 have e1:mid 2 (unr cm) nilB=enc cm:=by unfold mid;rw [if_pos rfl,zf5]
 have:=zh0 hg h0
 have:=hg.1
 show 1+(mid 2 (unr cm) nilB).length+nilB.size≤98
 rw [e1]
 have:nilB.size=0:=rfl
 omega
theorem zkj {n:Int} (h0:0≤n) (h1:n≤1073741823):fF (4,[n],nilB)=0∧(fS (4,[n],nilB)).size≤5:=by
 have hf:fF (4,[n],nilB)=0:=zd5 (show zbk 4=true by decide) (show cntB 4 1=true by decide) (fun _=>rfl) (zwq h0 h1) (show 0≤20 by omega) (fun e=>by cases e)
 refine ⟨hf,?_⟩
 rw [zpy hf]
 show 1+([n].flatMap V.nums).length+0≤5
 have:=zfa [n]
 simp only [List.length_cons,List.length_nil] at this
 omega
theorem ztq {p:Nat×ByteArray} (h0:p.1≤60) (h1:p.2.size≤20):fF (pfr p)=0∧(fS (pfr p)).size≤29:=by
 have hf:fF (pfr p)=0:=zd5 (by show zbk 3=true;decide) (by show cntB 3 1=true;decide) (fun e=>absurd rfl e) (zwq (by omega) (by omega)) h1 (fun e=>by cases e)
 refine ⟨hf,?_⟩
 rw [zpy hf]
 show 1+(([(p.1:Int)]++ [(p.2.size:Int)]).flatMap V.nums).length+p.2.size≤29
 have:=zfa ([(p.1:Int)]++ [(p.2.size:Int)])
 simp only [List.length_append,List.length_cons,List.length_nil] at this
 omega
theorem zHi:∀ {l:List F},(∀f∈l,fF f=0)→fsF l=0:=fun {l} h=>zrc l fun j hj=>h _ (zpc hj)
theorem zDd:∀(l:List F) (b:Nat),(∀f∈l,(fS f).size≤b)→(fsS l).size≤b*l.length
 | [],b,_=>Nat.zero_le _
 | f::l,b,h=>by
  have h1:=zDd l b fun g hg=>h g (List.mem_cons_of_mem _ hg)
  have h2:=h f List.mem_cons_self
  simp only [fsS,ByteArray.size_append,List.length_cons,Nat.mul_add,Nat.mul_one]
  omega
theorem zBb {n k:Int} (h:U.zc8 n k=true):(pkN n k).size≤5:=by
 have h1:=congrArg List.length (ziz n k)
 rw [zaa] at h1
 rw [h1,List.length_cons]
 unfold numB
 split
 ·simp
 ·split
  ·simp
  ·split<;>simp
theorem zjg {e:En} (h:EInv e):∀f∈(pieces e).map pfr,fF f=0∧(fS f).size≤29:=by
 intro f hf
 obtain ⟨p,hp,rfl⟩:=List.mem_map.1 hf
 have:=zfn e.d (en e) (zge e) 3 e.t p hp
 have:=h.en60
 exact ztq (by omega) (by omega)
theorem zzt {e:En} (h:EInv e):∀f∈frs e,fF f=0:=by
 intro f hf
 unfold frs at hf
 rcases List.mem_append.1 hf with hf | hf
 ·split at hf
  ·simp at hf
  ·rename_i h0
   simp at hf
   subst hf
   exact (zrb h.cm h0).1
 ·rcases List.mem_cons.1 hf with rfl | hf
  ·have:=h.c.l1
   have:=h.c.w1
   exact (zkj (by omega) h.c.l2).1
  ·exact (zjg h f hf).1
theorem zAz {e:En} (h:EInv e):(fsS (frs e)).size≤190:=by
 unfold frs
 rw [zht]
 have hp:=zDd ((pieces e).map pfr) 29 fun f hf=>(zjg h f hf).2
 have hl:((pieces e).map pfr).length≤3:=by rw [List.length_map];exact zcf _ _ _ _
 have h4:=h.c.l1
 have h5:=h.c.w1
 have hc:=(zkj (n:=e.c.lim) (by omega) h.c.l2).2
 have ha:(fsS (if e.cm= [] then [] else [(2,unr e.cm,nilB)])).size≤98:=by
  split
  ·exact Nat.zero_le _
  ·rename_i h0
   rw [zu8]
   exact (zrb h.cm h0).2
 simp only [ByteArray.size_append,fsS]
 omega
theorem zsu {e:En}:1≤(frs e).length∧(frs e).length≤5:=by
 have hl:((pieces e).map pfr).length≤3:=by rw [List.length_map];exact zcf _ _ _ _
 unfold frs
 rw [List.length_append,List.length_cons]
 split
 ·simp only [List.length_nil];omega
 ·simp only [List.length_cons,List.length_nil];omega
theorem zts {e:En} (h:EInv e) (hm:e.m≤1073741823):zcb e=0:=by
 have hk0:=h.k0
 have hk1:=h.k1
 have hp:U.zc8 e.m e.k=true:=decide_eq_true ⟨by omega,by omega,hk0,hk1⟩
 have hl:=zsu (e:=e)
 have hs:=zAz h
 have hn:=zBb hp
 unfold zcb pkF
 rw [if_neg (by rw [hp];decide),if_neg (by omega),if_neg (by omega),zHi (zzt h),if_neg (by decide),if_neg (by unfold pkS;rw [ByteArray.size_append];omega)]
theorem zmu {e:En} (h:zcb e=0):zbj e=pkS e.m e.k (frs e):=by unfold zbj;rw [if_pos h]
theorem zd6 {e:En} (h:zcb e=0):zbn e= {e with ls:=zd3 e.ls e.m (pk e).1 (pk e).2,m:=e.m+1}:=by unfold zbn;rw [if_pos h]
end Go.Proofs.YtdnehibcpkjafaaGreatDoor
namespace Go.Proofs.YtdnehibcpkjafaaGreatDoor
open Go.RowKit Go.Lib Go.Sort
theorem zFu {n b next:Int} (hb:U.lenB b=true) (h0:0≤n) (h1:n≤1073741823) (hnx:U.mayB next=true) (hd:2*(n-next)<U.rnd b) (hd2:2*(next-n)<U.rnd b):U.zch (n%U.rnd b) b next=true∧U.near (n%U.rnd b) (U.rnd b) next=n:=by
 have hr:=U.zar b
 have hw:U.zch (n%U.rnd b) b next=true:=by
  have e1:=Int.emod_nonneg n (show U.rnd b≠0 by omega)
  have e2:=Int.emod_lt_of_pos n (show 0<U.rnd b by omega)
  have e3:n%U.rnd b≤n:=by rcases U.zit hb with e | e | e | e<;>rw [e]<;>omega
  rw [U.zfp]
  exact ⟨⟨⟨hnx,hb⟩,(U.zas _).2 ⟨e1,by omega⟩⟩,e2⟩
 refine ⟨hw,?_⟩
 obtain ⟨⟨a0,a1⟩,a2,a3,a4⟩:=U.zo8 _ _ _ hw
 generalize U.near (n%U.rnd b) (U.rnd b) next=y at *
 unfold U.far at a3 a4
 rcases U.zit hb with e | e | e | e
 all_goals (rw [e] at a2 a3 a4 hd hd2;(repeat' split at a3)<;>(repeat' split at a4)<;>omega)
theorem zH3 {n k next:Int} {l:List F} (h:pkF n k l=0) (hnx:U.mayB next=true) (hd:2*(n-next)<U.rnd (U.need n k)) (hd2:2*(next-n)<U.rnd (U.need n k)):rdP (pkS n k l) next=some (n,l):=by
 obtain ⟨hp,hl1,hl2,hf,hs⟩:=zie h
 obtain ⟨n0,n1,_⟩:=U.zb3 hp
 have hlen:=U.zdm n k
 obtain ⟨hw,hn⟩:=zFu hlen n0 n1 hnx hd hd2
 have hnl:=zf2 (n:=n) hlen
 have hi:V.ints (pkS n k l)=U.need n k::(numB n (U.need n k)++V.ints (fsS l)):=by
  unfold pkS
  rw [V.zce,ziz];rfl
 have ht:(numB n (U.need n k)++V.ints (fsS l)).take (U.need n k).toNat=numB n (U.need n k):=by
  rw [show (U.need n k).toNat=(numB n (U.need n k)).length by omega,List.take_left]
 have e1:rdN (pkS n k l) next=some (n,1+(U.need n k).toNat):=by
  unfold rdN
  rw [hi]
  simp only [ht,zCu n0 hlen]
  rw [if_neg (fun hh=>by
   rcases hh with e | e
   ·rw [hlen] at e;cases e
   ·rw [List.length_append] at e;omega),if_neg (by rw [hw];decide),hn]
 have e2:(pkS n k l).extract (1+(U.need n k).toNat) (pkS n k l).size=fsS l:=by
  have hsz:(pkS n k l).size=1+(U.need n k).toNat+(fsS l).size:=by
   rw [←zaa,hi,List.length_cons,List.length_append,zaa];omega
  apply zbb
  rw [zae _ _ (by omega),hi,show 1+(U.need n k).toNat=(numB n (U.need n k)).length+1 by omega,List.drop_succ_cons,List.drop_left]
 unfold rdP
 rw [e1,Option.bind_some,e2,zsc l hf,zm0 hl1 hl2]
 rfl
theorem zsb {d b:ByteArray} {f u:Nat} (h:u≤d.size):(d++b).extract f u=d.extract f u:=by
 apply zbb
 rw [zan,zan,V.zce]
 by_cases hf:f≤u
 ·rw [List.drop_append_of_le_length (by rw [zaa];omega),List.take_append_of_le_length (by rw [List.length_drop,zaa];omega)]
 ·rw [show u-f=0 by omega,List.take_zero,List.take_zero]
theorem zlk {d b:ByteArray} {n:Nat} (h:n≤d.size):∀(k a:Nat),pcs (d++b) n k a=pcs d n k a
 | 0,_=>rfl
 | k+1,a=>by
  simp only [pcs]
  rw [zlk h k,zsb (by omega)]
theorem zk5 {e:En} (h:en e≤e.t):pieces e= []:=by
 unfold pieces
 simp only [pcs]
 rw [if_neg (by omega)]
theorem zna (e:En):pieces e=pcs e.d (pk e).2 3 (pk e).1:=by
 unfold pk
 split
 ·rfl
 ·rename_i h
  rw [zk5 (by omega)]
  rfl
end Go.Proofs.YtdnehibcpkjafaaGreatDoor
namespace Go.Proofs.YtdnehibcpkjafaaGreatDoor
open Go.RowKit Go.Lib Go.Sort
open Sx (bat)
theorem zju:∀(a b:List F) (e:En),(runF a e).1=0→runF (a++b) e=runF b (runF a e).2
 | [],b,e,_=>rfl
 | f::a,b,e,h=>by
  simp only [List.cons_append,runF] at h ⊢
  by_cases h0:(stpE e f).1≠0
  ·rw [if_pos h0] at h
   exact absurd h h0
  ·rw [if_neg h0] at h ⊢
   rw [if_neg h0]
   exact zju a b _ h
theorem ziu {f:F} {l:List F} {e e':En} (h:stpE e f=(0,e')):runF (f::l) e=runF l e':=by
 simp only [runF,h]
 rw [if_neg (by simp)]
theorem zgq {e:En} (h:EInv e) {p:Int} (hp:Mem e.cm p):p<zai e:=by
 obtain ⟨_,_,hn⟩:=(zbv e.cm).1 h.cm
 unfold zai
 cases hc:e.cm with
 | nil=>rw [hc] at hp;exact absurd hp (zhu p)
 | cons r rs=>
  rw [hc] at hp hn
  obtain ⟨s,hs,h1,h2⟩:=hp
  rcases List.mem_cons.1 hs with rfl | hs
  ·simp only;omega
  ·have:=hn.2.1 s hs
   have:=hn.1
   simp only;omega
theorem ziq {e:En} (h:EInv e):0≤zai e:=by
 obtain ⟨_,h2,hn⟩:=(zbv e.cm).1 h.cm
 unfold zai
 cases hc:e.cm with
 | nil=>simp
 | cons r rs=>
  rw [hc] at hn h2
  have:=h2 r List.mem_cons_self
  have:=hn.1
  simp only;omega
def abv (m:Int):List R→List R
 | []=> [(m,m)]
 | r::rs=>if r.2+1=m then (r.1,m)::rs else (m,m)::r::rs
theorem zv9 {ls:List Ld} {m a b:Nat} (hl:∀l,ls.getLast? =some l→l.hi+1=m) {l:Ld} (h:l∈ls):∃l'∈zd3 ls m a b,l'.lo=l.lo∧l.hi≤l'.hi∧l'.b=l.b:=by
 unfold zd3
 split
 ·rename_i h0
  rw [List.getLast?_eq_none_iff] at h0
  subst h0
  simp at h
 ·rename_i x h0
  have hx:=hl x h0
  split
  ·rename_i h1
   obtain ⟨front,rfl⟩:∃front,ls=front++ [x]:=by
    have:=List.getLast?_eq_some_iff.1 h0
    exact this
   rw [List.dropLast_concat]
   rcases List.mem_append.1 h with h | h
   ·exact ⟨l,List.mem_append_left _ h,rfl,Nat.le_refl _,rfl⟩
   ·simp at h
    subst h
    exact ⟨⟨l.lo,m,a,b⟩,by simp,rfl,by simp only;omega,h1.2.symm⟩
  ·exact ⟨l,List.mem_append_left _ h,rfl,Nat.le_refl _,rfl⟩
theorem zh6 {ls:List Ld} {m a b:Nat}:∃l,(zd3 ls m a b).getLast? =some l∧l.hi=m∧l.b=b:=by
 unfold zd3
 split
 ·exact ⟨_,rfl,rfl,rfl⟩
 ·split
  ·exact ⟨_,List.getLast?_concat ..,rfl,rfl⟩
  ·exact ⟨_,List.getLast?_concat ..,rfl,rfl⟩
theorem zq9 {ls:List Ld} {m a b:Nat} (hh:∀l∈ls,l.lo≤l.hi) (hl:∀l,ls.getLast? =some l→l.hi+1=m):∀l∈zd3 ls m a b,l.lo≤l.hi:=by
 intro l h
 unfold zd3 at h
 split at h
 ·simp at h;subst h;exact Nat.le_refl _
 ·rename_i x h0
  have hx:=hl x h0
  have hm:x∈ls:=by obtain ⟨front,rfl⟩:=List.getLast?_eq_some_iff.1 h0;simp
  split at h
  ·rcases List.mem_append.1 h with h | h
   ·exact hh l (List.dropLast_subset _ h)
   ·simp at h;subst h;have:=hh x hm;simp only;omega
  ·rcases List.mem_append.1 h with h | h
   ·exact hh l h
   ·simp at h;subst h;exact Nat.le_refl _
theorem zes {ls:List Ld} {m a b:Nat} {l:Ld} (h:l∈zd3 ls m a b):l∈ls∨(l.hi=m∧l.b=b∧(l.lo=m∨∃l0,ls.getLast? =some l0∧l0.lo=l.lo∧l0.b=b)):=by
 unfold zd3 at h
 split at h
 ·simp at h;subst h;exact .inr ⟨rfl,rfl,.inl rfl⟩
 ·rename_i x h0
  split at h
  ·rename_i h1
   rcases List.mem_append.1 h with h | h
   ·exact .inl (List.dropLast_subset _ h)
   ·simp at h;subst h;exact .inr ⟨rfl,rfl,.inr ⟨x,h0,rfl,h1.2⟩⟩
  ·rcases List.mem_append.1 h with h | h
   ·exact .inl h
   ·simp at h;subst h;exact .inr ⟨rfl,rfl,.inl rfl⟩
theorem zq4 {ls:List Ld} {l:Ld} (h:ls.getLast? =some l):l∈ls:=by obtain ⟨front,rfl⟩:=List.getLast?_eq_some_iff.1 h;simp
theorem zix:∀(ls:List Ld) (t:Nat),t≤ls.foldl (fun b x=>max b x.b) t
 | [],t=>Nat.le_refl _
 | y::ls,t=>by
  simp only [List.foldl_cons]
  have:=zix ls (max t y.b)
  omega
theorem zj4:∀(ls:List Ld) (t:Nat),∀x∈ls,x.b≤ls.foldl (fun b x=>max b x.b) t
 | [],t,x,h=>by simp at h
 | y::ls,t,x,h=>by
  simp only [List.foldl_cons]
  rcases List.mem_cons.1 h with rfl | h
  ·have:=zix ls (max t x.b)
   omega
  ·exact zj4 ls _ x h
theorem zB4 {ls:List Ld} {r:R} {l:Ld} (h:l∈ls) (ho:¬((l.hi:Int)<r.1∨r.2<(l.lo:Int))):∀t,l.b≤zcu ls t r:=by
 unfold zcu
 induction ls with
 | nil=>simp at h
 | cons y ls ih=>
  intro t
  simp only [List.foldl_cons]
  rcases List.mem_cons.1 h with rfl | h
  ·rw [if_neg ho]
   have:=(zmb (ls:=ls) (b:=ls.foldl (fun b x=>max b x.b) (max t l.b)) r (max t l.b) (zix ls _) (zj4 ls _)).1
   unfold zcu at this
   omega
  ·exact ih h _
theorem zrh {ls:List Ld} {r:R} {b:Nat} (hb:∀l∈ls,¬((l.hi:Int)<r.1∨r.2<(l.lo:Int))→l.b≤b):∀t,t≤b→t≤zcu ls t r∧zcu ls t r≤b:=by
 unfold zcu
 induction ls with
 | nil=>intro t h;exact ⟨Nat.le_refl _,h⟩
 | cons y ls ih=>
  intro t h
  simp only [List.foldl_cons]
  have ih':=ih fun l hl=>hb l (List.mem_cons_of_mem _ hl)
  split
  ·exact ih' t h
  ·rename_i h0
   have:=hb y List.mem_cons_self h0
   have:=ih' (max t y.b) (by omega)
   omega
theorem zAd {ls:List Ld} {b:Nat}:∀(rs:List R),(∀l∈ls,∀r∈rs,¬((l.hi:Int)<r.1∨r.2<(l.lo:Int))→l.b≤b)→∀t,t≤b→t≤tells ls t rs∧tells ls t rs≤b:=by
 intro rs
 unfold tells
 induction rs with
 | nil=>intro _ t h;exact ⟨Nat.le_refl _,h⟩
 | cons r rs ih=>
  intro hb t h
  simp only [List.foldl_cons]
  have h1:=zrh (fun l hl=>hb l hl r List.mem_cons_self) t h
  have h2:=ih (fun l hl s hs=>hb l hl s (List.mem_cons_of_mem _ hs)) (zcu ls t r) h1.2
  omega
structure Talk (n:Int) (d:ByteArray) (x y:En) (r q:Nat):Prop where
 xi:EInv x
 yi:EInv y
 xd:x.d=d
 yd:y.d=nilB
 tr:x.t≤r
 qr:q≤r
 rd:r≤d.size
 lr:x.l≤y.c.lim
 yb:∀i,i<r→y.s.byt i=bat d i
 yc:∀i,y.s.cm i=decide (i<r)
 yk:y.s.tk=q
 cr:y.c.came=r
 ce:y.c.read=q
 cw:y.c.win=n
 ack:∀l∈x.ls,∀p:Int,(l.lo:Int)≤p→p≤l.hi→Mem y.cm p→l.b≤r
 top:r=0∨∃l∈x.ls,∃p:Int,(l.lo:Int)≤p∧p≤l.hi∧Mem y.cm p∧l.b=r
 lst:∀l,x.ls.getLast? =some l→l.hi+1=x.m
 lh:∀l∈x.ls,l.lo≤l.hi
 ym:zai y≤x.m
 xm:zai x≤y.m
 yn:x.k<zai y
 xn:y.k<zai x
 go:r=d.size∨(y.c.lim=q+n∧((x.l=q∧r=q)∨(x.l=q+n∧(r=q∨(r:Int)=q+n))))
theorem zG8 {s:Sx.St} {r q:Nat} (hc:∀i,s.cm i=decide (i<r)) (hk:s.tk=q) (hq:q≤r) (hr:r≤60):Sx.rdy s=r-q:=by
 unfold Sx.rdy
 rw [hk]
 by_cases h:r=60
 ·rw [Sx.zjs _ _ _ (fun i hi=>by rw [hc];exact decide_eq_true (by omega)),h]
 ·exact Sx.zgl _ _ _ _ (fun i hi=>by rw [hc];exact decide_eq_true (by omega)) (by omega) (by rw [hc];exact decide_eq_false (by omega))
theorem zin {d:ByteArray} {a b i:Nat} (h:i<b-a) (hb:b≤d.size):bat (d.extract a b) i=bat d (a+i):=by
 rw [zmm,zmm,zan,List.getElem?_take_of_lt h,List.getElem?_drop]
structure Rcv (d:ByteArray) (s:Sx.St) (c:Cx.St) (r:Nat):Prop where
 yb:∀i,i<r→s.byt i=bat d i
 yc:∀i,s.cm i=decide (i<r)
 cr:c.came=r
theorem zEm {d:ByteArray} {b:Nat} (hb:b≤d.size) (h60:d.size≤60):∀(k a r:Nat) (y:En),a≤r→(b:Int)≤y.c.lim→b≤a+20*k→Rcv d y.s y.c r→
  ∃s c,runF ((pcs d b k a).map pfr) y=(0,{y with s:=s,c:=c})∧Rcv d s c (max r b)∧s.tk=y.s.tk∧c.lim=y.c.lim∧c.win=y.c.win∧c.read=y.c.read:=by
 intro k
 induction k with
 | zero=>
  intro a r y h1 h2 h3 hR
  have e:max r b=r:=by omega
  rw [e]
  exact ⟨y.s,y.c,rfl,hR,rfl,rfl,rfl,rfl⟩
 | succ k ih=>
  intro a r y h1 h2 h3 hR
  simp only [pcs]
  by_cases hab:a<b
  ·rw [if_pos hab,List.map_cons]
   have hsz:(d.extract a (min b (a+20))).size=min b (a+20)-a:=by rw [ByteArray.size_extract];omega
   have hT:Cx.zcv y.c ((a:Int)+(d.extract a (min b (a+20))).size)=0:=Cx.zn3 (decide_eq_true ⟨by omega,by omega⟩) (by omega)
   have hP:Sx.putF y.s (a:Int) (d.extract a (min b (a+20)))=0:=by
    refine Sx.zir (decide_eq_true ⟨by omega,by omega⟩) (by omega) (Sx.zo7 fun i hi=> ?_)
    unfold Sx.cl
    rw [show ((a:Int)).toNat=a from rfl,hR.yc]
    by_cases hir:a+i<r
    ·rw [hR.yb _ hir,zin (by omega) (by omega)]
     simp
    ·rw [decide_eq_false hir]
     rfl
   have hstp:stpE y (pfr (a,d.extract a (min b (a+20))))=(0,{y with s:=Sx.upS y.s a (d.extract a (min b (a+20))) (d.extract a (min b (a+20))).size,c:=Cx.upS y.c ((a:Int)+(d.extract a (min b (a+20))).size)}):=by
    show stpE y (3,[(a:Int)],d.extract a (min b (a+20)))=_
    unfold stpE
    rw [if_neg (show¬(3:Int)=2 by decide),if_neg (show¬(3:Int)=4 by decide),if_pos rfl]
    have ef:first [(a:Int)]=(a:Int):=rfl
    simp only [ef]
    rw [if_neg (by rw [hT];decide),hP,Cx.zgk hT,Sx.ziw hP]
    rfl
   rw [ziu hstp]
   have hR':Rcv d (Sx.upS y.s a (d.extract a (min b (a+20))) (d.extract a (min b (a+20))).size) (Cx.upS y.c ((a:Int)+(d.extract a (min b (a+20))).size)) (max r (min b (a+20))):=by
    rw [hsz]
    refine ⟨fun i hi=> ?_,fun i=> ?_,?_⟩
    ·simp only [Sx.upS]
     split
     ·rename_i h4
      rw [zin (by omega) (by omega)]
      congr 1
      omega
     ·rename_i h4
      exact hR.yb i (by omega)
    ·simp only [Sx.upS]
     rw [hR.yc]
     by_cases h4:a≤i∧i<a+(min b (a+20)-a)
     ·rw [decide_eq_true h4,Bool.true_or,decide_eq_true (show i<max r (min b (a+20)) by omega)]
     ·rw [decide_eq_false h4,Bool.false_or]
      by_cases h5:i<r
      ·rw [decide_eq_true h5,decide_eq_true (by omega)]
      ·rw [decide_eq_false h5,decide_eq_false (by omega)]
    ·simp only [Cx.upS]
     have:=hR.cr
     split<;>omega
   obtain ⟨s,c,e1,e2,e3,e4,e5,e6⟩:=ih (min b (a+20)) (max r (min b (a+20))) {y with s:=Sx.upS y.s a (d.extract a (min b (a+20))) (d.extract a (min b (a+20))).size,c:=Cx.upS y.c ((a:Int)+(d.extract a (min b (a+20))).size)} (by omega) h2 (by omega) hR'
   have e7:max (max r (min b (a+20))) b=max r b:=by omega
   rw [e7] at e2
   exact ⟨s,c,e1,e2,e3,e4,e5,e6⟩
  ·rw [if_neg hab]
   have e:max r b=r:=by omega
   rw [e]
   exact ⟨y.s,y.c,rfl,hR,rfl,rfl,rfl,rfl⟩
theorem zuz {r:R} {rs:List R}:first (unr (r::rs))=r.2:=rfl
theorem zlt {e y:En} (hy:zai e≤y.m):∃k t,runF ((if e.cm= [] then [] else [(2,unr e.cm,nilB)])++ [(4,[e.c.lim],nilB)]) y=(0,{y with k:=k,t:=t,l:=max y.l e.c.lim})∧((e.cm= []∧k=y.k∧t=y.t)∨(e.cm≠ []∧k=max y.k (zai e-1)∧t=tells y.ls y.t e.cm)):=by
 have h4:∀z:En,stpE z (4,[e.c.lim],nilB)=(0,{z with l:=max z.l e.c.lim}):=fun z=>rfl
 by_cases h0:e.cm= []
 ·rw [if_pos h0,List.nil_append,ziu (h4 y)]
  exact ⟨y.k,y.t,rfl,.inl ⟨h0,rfl,rfl⟩⟩
 ·rw [if_neg h0]
  obtain ⟨r,rs,hc⟩:∃r rs,e.cm=r::rs:=by
   cases hc:e.cm with
   | nil=>exact absurd hc h0
   | cons r rs=>exact ⟨r,rs,rfl⟩
  have hn:zai e=r.2+1:=by unfold zai;rw [hc]
  have h2:stpE y (2,unr e.cm,nilB)=(0,{y with k:=max y.k (zai e-1),t:=tells y.ls y.t e.cm}):=by
   unfold stpE
   rw [if_pos rfl]
   have ef:first (unr e.cm)=zai e-1:=by rw [hc,zuz,hn];omega
   simp only [ef]
   rw [if_neg (by omega),zf5]
  rw [List.singleton_append,ziu h2,ziu (h4 _)]
  exact ⟨_,_,rfl,.inr ⟨h0,rfl,rfl⟩⟩
theorem zx5 (e:En):frs e=((if e.cm= [] then [] else [(2,unr e.cm,nilB)])++ [(4,[e.c.lim],nilB)])++(pieces e).map pfr:=by
 unfold frs
 rw [List.append_assoc]
 rfl
theorem zw4 {e:En} {n:Int} {fs:List F} (h0:memB e.cm n=false) (h1:(runF fs e).1=0) (h2:12<(addL e.cm n).length):come e n fs=(4,e):=by
 unfold come
 rw [if_neg (by rw [h0];decide),if_neg (by rw [h1];decide),if_pos h2]
theorem zxf {e e':En} {n:Int} {fs:List F} (h0:memB e.cm n=false) (h1:runF fs e=(0,e')) (h2:(addL e.cm n).length≤12):come e n fs=(0,{e' with cm:=addL e.cm n}):=by
 unfold come
 rw [if_neg (by rw [h0];decide),h1,if_neg (show¬(0:Int)≠0 by decide),if_neg (by omega)]
structure Dirn (n:Int) (x y:En) (r q:Nat):Prop where
 tr:x.t≤r
 qr:q≤r
 rd:r≤x.d.size
 lr:x.l≤y.c.lim
 yb:∀i,i<r→y.s.byt i=bat x.d i
 yc:∀i,y.s.cm i=decide (i<r)
 yk:y.s.tk=q
 cr:y.c.came=r
 ce:y.c.read=q
 cw:y.c.win=n
 ack:∀l∈x.ls,∀p:Int,(l.lo:Int)≤p→p≤l.hi→Mem y.cm p→l.b≤r
 ym:zai y≤x.m
 lst:∀l,x.ls.getLast? =some l→l.hi+1=x.m
 lh:∀l∈x.ls,l.lo≤l.hi
 kn:x.k<zai y
def hdF (cm:List R) (lim:Int):List F:=(if cm= [] then [] else [(2,unr cm,nilB)])++ [(4,[lim],nilB)]
structure Ltr (x:En) (p:Nat) (fs:List F) (cm:List R) (lim:Int) (a b:Nat):Prop where
 pm:p<x.m
 ld:∀l∈x.ls,l.lo≤p→p≤l.hi→l.b=b
 at':a≤x.t
 ab:b≤a+60
 bd:b≤x.d.size
 bl:(b:Int)≤x.l
 ch:chk cm=0
 sub:∀q,Mem cm q→Mem x.cm q
 lm:lim≤x.c.lim
 fs:fs=hdF cm lim++(pcs x.d b 3 a).map pfr
theorem zEy {e:En} {M:Nat} (h:EInv e) (hm:∀q,Mem e.cm q→q<M):zai e≤M:=by
 unfold zai
 cases hc:e.cm with
 | nil=>simp
 | cons r rs=>
  have hn:=((zbv e.cm).1 h.cm).2.2
  rw [hc] at hn hm
  have:=hm r.2 ⟨r,List.mem_cons_self,hn.1,Int.le_refl _⟩
  simp only
  omega
theorem zv2 {e e':En} (h:EInv e) (h':EInv e') (hm:∀z,Mem e.cm z→Mem e'.cm z):zai e≤zai e':=by
 have h0:=ziq h'
 unfold zai
 cases hc:e.cm with
 | nil=>exact h0
 | cons r rs=>
  have hn:=((zbv e.cm).1 h.cm).2.2
  rw [hc] at hn hm
  have:=zgq h' (hm r.2 ⟨r,List.mem_cons_self,hn.1,Int.le_refl _⟩)
  show r.2+1≤zai e'
  omega
theorem zGy {cm:List R} {lim:Int} {y:En} (hy:∀r rs,cm=r::rs→r.2<y.m):∃k t,runF (hdF cm lim) y=(0,{y with k:=k,t:=t,l:=max y.l lim})∧((cm= []∧k=y.k∧t=y.t)∨∃r rs,cm=r::rs∧k=max y.k r.2∧t=tells y.ls y.t cm):=by
 have:=zlt (e:= {y with cm:=cm,c:= {y.c with lim:=lim}}) (y:=y) (by
  unfold zai
  cases hc:cm with
  | nil=>simp
  | cons r rs=>have:=hy r rs hc;simp only;omega)
 obtain ⟨k,t,e1,e2⟩:=this
 refine ⟨k,t,e1,?_⟩
 rcases e2 with ⟨a,b,c⟩ | ⟨a,b,c⟩
 ·exact .inl ⟨a,b,c⟩
 ·right
  cases hc:cm with
  | nil=>exact absurd hc a
  | cons r rs=>
   refine ⟨r,rs,rfl,?_,by rw [c,←hc]⟩
   rw [b]
   have:zai {y with cm:=cm,c:= {y.c with lim:=lim}}=r.2+1:=by unfold zai;rw [hc]
   rw [this]
   congr 1
   omega
section
variable {n : Int} {x y : En} {r q r' q' : Nat}
theorem Dirn.take (h:Dirn n x y r q) (g:Dirn n y x r' q') (hx:EInv x) (hy:EInv y) {p:Nat} {fs:List F} {cm:List R} {lim:Int} {a b:Nat} (hl:Ltr x p fs cm lim a b) (hfs:∀f∈fs,fF f=0) (hp:p≤1073741823):
  (memB y.cm p=true∧come y p fs=(0,y))∨(come y p fs=(4,y)∧12<(addL y.cm p).length)∨∃y2,come y p fs=(0,y2)∧EInv y2∧Dirn n x y2 (max r b) q∧Dirn n y2 x r' q'∧y2.d=y.d∧y2.m=y.m∧y2.ls=y.ls∧y.t≤y2.t∧y.l≤y2.l∧lim≤y2.l∧y2.c.lim=y.c.lim∧(∀z,Mem y2.cm z↔Mem y.cm z∨z=p)∧y2.cm=addL y.cm p:=by
 by_cases hmem:memB y.cm p=true
 ·left
  refine ⟨hmem,?_⟩
  unfold come
  rw [if_pos hmem]
 ·right
  have hmem:memB y.cm p=false:=by simpa using hmem
  have hcn:=(zbv cm).1 hl.ch
  have hsub:∀z,Mem cm z→z<y.m:=fun z hz=>by
   have h1:=zgq hx (hl.sub z hz)
   have h2:=g.ym
   omega
  obtain ⟨k,t,e1,e2⟩:=zGy (cm:=cm) (lim:=lim) (y:=y) (fun r0 rs hc=>by
   rw [hc] at hsub hcn
   exact hsub r0.2 ⟨r0,List.mem_cons_self,hcn.2.2.1,Int.le_refl _⟩)
  have ht:y.t≤t∧t≤r':=by
   rcases e2 with ⟨_,_,e3⟩ | ⟨_,_,_,_,e3⟩
   ·have:=g.tr;omega
   ·rw [e3]
    exact zAd cm (fun l hl2 rg hrg ho=>by
     have h1:=g.lh l hl2
     have h2:=zb8 hcn.2.2 rg hrg
     exact g.ack l hl2 (max (l.lo:Int) rg.1) (by omega) (by omega) (hl.sub _ ⟨rg,hrg,by omega,by omega⟩)) y.t g.tr
  obtain ⟨s,c,f1,f2,f3,f4,f5,f6⟩:=zEm (d:=x.d) (b:=b) hl.bd hx.d60 3 a r {y with k:=k,t:=t,l:=max y.l lim} (by have:=hl.at';have:=h.tr;omega) (by have:=hl.bl;have:=h.lr;show (b:Int)≤y.c.lim;omega) (by have:=hl.ab;omega) ⟨h.yb,h.yc,h.cr⟩
  have hrun:runF fs y=(0,{y with k:=k,t:=t,l:=max y.l lim,s:=s,c:=c}):=by
   rw [hl.fs,zju _ _ _ (by rw [e1]),e1]
   exact f1
  by_cases hlen:12<(addL y.cm p).length
  ·left
   exact ⟨zw4 hmem (by rw [hrun]) hlen,hlen⟩
  ·right
   have hc:=zxf hmem hrun (by omega)
   have hi:=hy.come (n:=p) ((zdf _).2 ⟨by omega,by omega⟩) (fs:=fs) hfs
   rw [hc] at hi
   have hadd:=(zme (n:=(p:Int)) hy.cm).2
   refine ⟨_,hc,hi,⟨by have:=h.tr;omega,by have:=h.qr;omega,by have:=h.rd;have:=hl.bd;omega,by show x.l≤c.lim;rw [f4];exact h.lr,f2.yb,f2.yc,f3.trans h.yk,f2.cr,f6.trans h.ce,f5.trans h.cw,fun l hl2 z z1 z2 hz=> ?_,?_,h.lst,h.lh,?_⟩,⟨ht.2,g.qr,g.rd,?_,g.yb,g.yc,g.yk,g.cr,g.ce,g.cw,g.ack,g.ym,g.lst,g.lh,?_⟩,rfl,rfl,rfl,ht.1,by show y.l≤max y.l lim;omega,by show lim≤max y.l lim;omega,f4,hadd,rfl⟩
   ·rcases (hadd z).1 hz with hz | rfl
    ·have:=h.ack l hl2 z z1 z2 hz;omega
    ·have:=hl.ld l hl2 (by omega) (by omega);omega
   ·refine zEy hi fun z hz=> ?_
    rcases (hadd z).1 hz with hz | rfl
    ·have:=zgq hy hz;have:=h.ym;omega
    ·have:=hl.pm;omega
   ·exact Int.lt_of_lt_of_le h.kn (zv2 hy hi (fun z hz=>(hadd z).2 (.inl hz)))
   ·show max y.l lim≤x.c.lim
    have:=g.lr;have:=hl.lm;omega
   ·show k<zai x
    have hk:=g.kn
    rcases e2 with ⟨_,e3,_⟩ | ⟨r0,rs,hc0,e3,_⟩
    ·omega
    ·have:=zgq hx (hl.sub r0.2 ⟨r0,by rw [hc0];exact List.mem_cons_self,by rw [hc0] at hcn;exact hcn.2.2.1,Int.le_refl _⟩)
     omega
theorem Dirn.write (h:Dirn n x y r q) (b:ByteArray):Dirn n (za9 x b) y r q:=by
 unfold za9
 split
 ·exact h
 ·exact ⟨h.tr,h.qr,by have:=h.rd;simp only [ByteArray.size_append];omega,h.lr,fun i hi=>by
   rw [h.yb i hi]
   have e:i<x.d.size:=by have:=h.rd;omega
   have:=zin (d:=x.d++b) (a:=0) (b:=x.d.size) (i:=i) (by omega) (by rw [ByteArray.size_append];omega)
   rw [zsb (Nat.le_refl _),Nat.zero_add] at this
   rw [←this,zin (by omega) (Nat.le_refl _),Nat.zero_add],h.yc,h.yk,h.cr,h.ce,h.cw,h.ack,h.ym,h.lst,h.lh,h.kn⟩
theorem Dirn.write' (h:Dirn n y x r q) (b:ByteArray):Dirn n y (za9 x b) r q:=by
 unfold za9
 split
 ·exact h
 ·exact ⟨h.tr,h.qr,h.rd,h.lr,h.yb,h.yc,h.yk,h.cr,h.ce,h.cw,h.ack,h.ym,h.lst,h.lh,h.kn⟩
theorem Ltr.write {p:Nat} {fs:List F} {cm:List R} {lim:Int} {a b:Nat} (h:Ltr x p fs cm lim a b) (d:ByteArray):Ltr (za9 x d) p fs cm lim a b:=by
 unfold za9
 split
 ·exact h
 ·exact ⟨h.pm,h.ld,h.at',h.ab,by have:=h.bd;simp only [ByteArray.size_append];omega,h.bl,h.ch,h.sub,h.lm,by rw [h.fs,zlk h.bd]⟩
theorem Dirn.read (h:Dirn n x y r q) (hx:EInv x) (hy:EInv y) (m:Int) (hm:0≤m):readF y m=0∧∃q2,zdc y m=x.d.extract q q2∧q≤q2∧q2≤r∧Dirn n x (zbg y m) r q2∧y.c.lim≤(zbg y m).c.lim∧(60≤m→q2=r):=by
 have h60:=hx.d60
 have hr:=zG8 h.yc h.yk h.qr (Nat.le_trans h.rd h60)
 have hrd:=h.rd
 have hqr:=h.qr
 obtain ⟨u,hu⟩:∃u,u=Sx.takeN y.s m:=⟨_,rfl⟩
 have hur:u≤r-q:=by rw [hu];unfold Sx.takeN;rw [hr];omega
 have hall:60≤m→u=r-q:=fun hm6=>by rw [hu];unfold Sx.takeN;rw [hr];omega
 have hcr:=h.cr
 have hce:=h.ce
 have hcw:=h.cw
 have w1:=hy.c.w1
 have w2:=hy.c.w2
 have l2:=hy.c.l2
 have l1:=hy.c.l1
 have r1:=hy.c.r1
 have r2:=hy.c.r2
 have hmore:0≤Cx.zcn y.c (u:Int)∧Cx.zcn y.c (u:Int)≤1073741823∧y.c.lim≤Cx.zcn y.c (u:Int):=by
  unfold Cx.zcn
  split<;>omega
 have hg:Cx.getF y.c (u:Int)=0:=Cx.zrk (by omega) (by rw [hcr,hce];omega) (decide_eq_true ⟨hmore.1,hmore.2.1⟩)
 have hf:readF y m=0:=by
  unfold readF
  rw [if_neg (by omega),←hu]
  exact hg
 have hs:Cx.getS y.c (u:Int)=⟨y.c.win,Cx.zcn y.c (u:Int),y.c.came,y.c.read+(u:Int)⟩:=by
  unfold Cx.getS
  rw [if_pos hg]
 have hS:zbg y m= {y with s:=Sx.zba y.s m,c:=Cx.getS y.c (u:Int)}:=by
  unfold zbg
  rw [if_pos hf,←hu]
 refine ⟨hf,q+u,?_,by omega,by omega,?_,?_,fun hm6=>by have:=hall hm6;omega⟩
 ·unfold zdc
  rw [if_pos hf,←zq2 (a:=q) (b:=q+u) (d:=x.d) (by omega),show q+u-q=u by omega]
  unfold Sx.zc2
  rw [←hu,h.yk]
  congr 1
  apply List.map_congr_left
  intro i hi
  have:=List.mem_range.1 hi
  exact h.yb (q+i) (by omega)
 ·rw [hS,hs]
  exact ⟨h.tr,by omega,h.rd,by have:=h.lr;simp only;omega,h.yb,h.yc,by show y.s.tk+Sx.takeN y.s m=q+u;rw [h.yk,←hu],hcr,by simp only;omega,hcw,h.ack,h.ym,h.lst,h.lh,h.kn⟩
 ·rw [hS,hs]
  exact hmore.2.2
theorem Dirn.read' (h:Dirn n y x r q) (m:Int):Dirn n (zbg y m) x r q:=by
 unfold zbg
 split
 ·exact ⟨h.tr,h.qr,h.rd,h.lr,h.yb,h.yc,h.yk,h.cr,h.ce,h.cw,h.ack,h.ym,h.lst,h.lh,h.kn⟩
 ·exact h
theorem Ltr.read {p:Nat} {fs:List F} {cm:List R} {lim:Int} {a b:Nat} (h:Ltr y p fs cm lim a b) (m:Int) (hl:y.c.lim≤(zbg y m).c.lim):Ltr (zbg y m) p fs cm lim a b:=by
 have hlm:lim≤(zbg y m).c.lim:=by have:=h.lm;omega
 revert hlm
 unfold zbg
 split
 ·exact fun hlm=>⟨h.pm,h.ld,h.at',h.ab,h.bd,h.bl,h.ch,h.sub,hlm,h.fs⟩
 ·exact fun _=>h
theorem Dirn.make (h:Dirn n x y r q) (hx:EInv x) (hy:EInv y) (hm:zcb x=0):Dirn n (zbn x) y r q:=by
 rw [zd6 hm]
 refine ⟨h.tr,h.qr,h.rd,h.lr,h.yb,h.yc,h.yk,h.cr,h.ce,h.cw,fun l hl p p1 p2 hp=> ?_,by have:=h.ym;simp only;omega,fun l hl=> ?_,zq9 h.lh h.lst,h.kn⟩
 ·rcases zes hl with hl | ⟨e1,e2,e3⟩
  ·exact h.ack l hl p p1 p2 hp
  ·have h1:=zgq hy hp
   have h2:=h.ym
   rcases e3 with e3 | ⟨l0,e4,e5,e6⟩
   ·rw [e3] at p1;omega
   ·have h3:=h.lst l0 e4
    have:=h.ack l0 (zq4 e4) p (by rw [e5];exact p1) (by omega) hp
    rw [e2,←e6]
    exact this
 ·obtain ⟨l0,e1,e2,_⟩:=zh6 (ls:=x.ls) (m:=x.m) (a:=(pk x).1) (b:=(pk x).2)
  simp only at hl
  rw [e1] at hl
  cases hl
  simp only
  omega
theorem Dirn.make' (h:Dirn n y x r q) (hm:zcb x=0):Dirn n y (zbn x) r q:=by
 rw [zd6 hm]
 exact ⟨h.tr,h.qr,h.rd,h.lr,h.yb,h.yc,h.yk,h.cr,h.ce,h.cw,h.ack,h.ym,h.lst,h.lh,h.kn⟩
theorem Ltr.make {p:Nat} {fs:List F} {cm:List R} {lim:Int} {a b:Nat} (h:Ltr x p fs cm lim a b) (g:Dirn n x y r q) (hm:zcb x=0):Ltr (zbn x) p fs cm lim a b:=by
 have hpm:=h.pm
 rw [zd6 hm]
 refine ⟨by simp only;omega,fun l hl h1 h2=> ?_,h.at',h.ab,h.bd,h.bl,h.ch,h.sub,h.lm,h.fs⟩
 rcases zes hl with hl | ⟨e1,e2,e3⟩
 ·exact h.ld l hl h1 h2
 ·rcases e3 with e3 | ⟨l0,e4,e5,e6⟩
  ·omega
  ·have h3:=g.lst l0 e4
   rw [e2,←e6]
   exact h.ld l0 (zq4 e4) (by omega) (by omega)
theorem Ltr.new (g:Dirn n x y r q) (hx:EInv x) (hm:zcb x=0):Ltr (zbn x) x.m (frs x) x.cm x.c.lim (pk x).1 (pk x).2:=by
 have hp:=zFy hx
 have hen:=zge x
 have h60:=hx.en60
 have l0:=hx.l0
 rw [zd6 hm]
 refine ⟨by simp only;omega,fun l hl h1 h2=> ?_,hp.2.1,by omega,by simp only;omega,?_,hx.cm,fun z hz=>hz,Int.le_refl _,?_⟩
 ·rcases zes hl with hl | ⟨_,e2,_⟩
  ·have:=(hx.ls l hl).1;omega
  ·exact e2
 ·have:=hp.2.2
  have:(en x:Int)≤x.l:=by unfold en;omega
  simp only
  omega
 ·rw [zx5,zna x]
  rfl
theorem Ltr.take {p:Nat} {fs:List F} {cm:List R} {lim:Int} {a b z:Nat} {y2:En} (h:Ltr y p fs cm lim a b) (h1:y2.d=y.d) (h2:y2.m=y.m) (h3:y2.ls=y.ls) (h4:y.t≤y2.t) (h5:y.l≤y2.l) (h6:y2.c.lim=y.c.lim) (h7:∀v,Mem y2.cm v↔Mem y.cm v∨v=z):Ltr y2 p fs cm lim a b:=
 ⟨by rw [h2];exact h.pm,by rw [h3];exact h.ld,Nat.le_trans h.at' h4,h.ab,by rw [h1];exact h.bd,Int.le_trans h.bl h5,h.ch,fun v hv=>(h7 v).2 (.inl (h.sub v hv)),by rw [h6];exact h.lm,by rw [h1];exact h.fs⟩
end
theorem Dirn.new {n:Int} (hn:Cx.winB n=true):Dirn n (newE n) (newE n) 0 0:=
 ⟨Nat.le_refl _,Nat.le_refl _,Nat.zero_le _,Int.le_refl _,fun i hi=>by omega,fun i=>by simp [newE,Sx.newS],rfl,rfl,rfl,rfl,fun l hl=>by simp [newE] at hl,by simp [zai,newE],fun l hl=>by simp [newE] at hl,fun l hl=>by simp [newE] at hl,by simp [zai,newE]⟩
end Go.Proofs.YtdnehibcpkjafaaGreatDoor
namespace Go.Proofs.YtdnehibcpkjafaaGreatDoor
open Go.RowKit Go.Lib Go.Sort
def LtOk (x:En) (bs:ByteArray):Prop:=∃(p:Nat) (k:Int) (fs:List F) (cm:List R) (lim:Int) (a b:Nat),Ltr x p fs cm lim a b∧pkF (p:Int) k fs=0∧bs=pkS (p:Int) k fs
structure Tk (n:Int) (x y:En) (r q r' q':Nat):Prop where
 xi:EInv x
 yi:EInv y
 f:Dirn n x y r q
 g:Dirn n y x r' q'
theorem zGd {n k:Int} {fs:List F} (h:pkF n k fs=0):∀f∈fs,fF f=0:=fun f hf=>by
 obtain ⟨_,_,_,h3,_⟩:=zie h
 obtain ⟨j,hj,e⟩:=List.getElem_of_mem hf
 have:=zmh fs h3 j hj
 rw [zmr hj,e] at this
 exact this
section
variable {n : Int} {x y : En} {r q r' q' : Nat}
theorem Tk.swap (h:Tk n x y r q r' q'):Tk n y x r' q' r q:=⟨h.yi,h.xi,h.g,h.f⟩
theorem Tk.take (h:Tk n x y r q r' q') {bs:ByteArray} (hl:LtOk x bs) (hM:x.m≤120):bs.size≤200∧(zbf y bs=(0,y)∨zbf y bs=(4,y)∨∃y2 r2,zbf y bs=(0,y2)∧r≤r2∧Tk n x y2 r2 q r' q'∧(∀b,LtOk y b→LtOk y2 b)∧y2.m=y.m∧y2.d=y.d):=by
 obtain ⟨p,k,fs,cm,lim,a,b,h1,h2,rfl⟩:=hl
 have hs:=(zie h2).2.2.2.2
 have hnx0:=ziq h.yi
 have hym:=h.f.ym
 have hpm:=h1.pm
 have hrn:=(U.zar (U.need (p:Int) k)).1
 have hmay:U.mayB (zai y)=true:=(U.zas _).2 ⟨hnx0,by omega⟩
 have hrd:=zH3 (next:=zai y) h2 hmay (by omega) (by omega)
 have ht:zbf y (pkS (p:Int) k fs)=come y p fs:=zv7 (zCh hmay hs hrd) hrd
 refine ⟨hs,?_⟩
 rw [ht]
 rcases h.f.take h.g h.xi h.yi h1 (zGd h2) (by omega) with ⟨_,e⟩ | ⟨e,_⟩ | ⟨y2,e1,e2,e3,e4,e5,e6,e7,e8,e9,_,e10,e11,_⟩
 ·exact .inl e
 ·exact .inr (.inl e)
 ·refine .inr (.inr ⟨y2,_,e1,Nat.le_max_left _ _,⟨h.xi,e2,e3,e4⟩,fun bs hb=> ?_,e6,e5⟩)
  obtain ⟨p',k',fs',cm',lim',a',b',g1,g2,g3⟩:=hb
  exact ⟨p',k',fs',cm',lim',a',b',g1.take e5 e6 e7 e8 e9 e10 e11,g2,g3⟩
theorem Tk.write (h:Tk n x y r q r' q') (d:ByteArray):Tk n (za9 x d) y r q r' q'∧(∀b,LtOk x b→LtOk (za9 x d) b):=
 ⟨⟨h.xi.write d,h.yi,h.f.write d,h.g.write' d⟩,fun bs ⟨p,k,fs,cm,lim,a,b,g1,g2,g3⟩=>⟨p,k,fs,cm,lim,a,b,g1.write d,g2,g3⟩⟩
theorem Tk.read (h:Tk n x y r q r' q') (m:Int) (hm:0≤m):readF y m=0∧∃q2,zdc y m=x.d.extract q q2∧q≤q2∧q2≤r∧Tk n x (zbg y m) r q2 r' q'∧(∀b,LtOk y b→LtOk (zbg y m) b)∧(60≤m→q2=r):=by
 obtain ⟨h1,q2,h2,h3,h4,h5,h6,h7⟩:=h.f.read h.xi h.yi m hm
 exact ⟨h1,q2,h2,h3,h4,⟨h.xi,h.yi.read m,h5,h.g.read' m⟩,fun bs ⟨p,k,fs,cm,lim,a,b,g1,g2,g3⟩=>⟨p,k,fs,cm,lim,a,b,g1.read m h6,g2,g3⟩,h7⟩
theorem Tk.make (h:Tk n x y r q r' q') (hm:zcb x=0):Tk n (zbn x) y r q r' q'∧(∀b,LtOk x b→LtOk (zbn x) b)∧LtOk (zbn x) (zbj x):=
 ⟨⟨h.xi.make,h.yi,h.f.make h.xi h.yi hm,h.g.make' hm⟩,fun bs ⟨p,k,fs,cm,lim,a,b,g1,g2,g3⟩=>⟨p,k,fs,cm,lim,a,b,g1.make h.f hm,g2,g3⟩,⟨x.m,x.k,frs x,x.cm,x.c.lim,(pk x).1,(pk x).2,Ltr.new h.f h.xi hm,hm,zmu hm⟩⟩
def Ready (x:En) (r:Nat):Prop:=r=x.d.size∨(r:Int)+1≤x.l
end
theorem Tk.new {n:Int} (hn:Cx.winB n=true):Tk n (newE n) (newE n) 0 0 0 0:=⟨EInv.new hn,EInv.new hn,Dirn.new hn,Dirn.new hn⟩
end Go.Proofs.YtdnehibcpkjafaaGreatDoor
namespace Go.Proofs.YtdnehibcpkjafaaGreatDoor
open Go.RowKit Go.Lib Go.Sort
structure Tt where
 a:En
 b:En
 ls:List Lk.LR
def Tt.who (s:Tt) (w:Int):En:=if w=0 then s.a else s.b
def Tt.set (s:Tt) (w:Int) (e:En):Tt:=if w=0 then {s with a:=e} else {s with b:=e}
theorem zu3 (s:Tt):s.who 0=s.a:=rfl
theorem zwg (s:Tt):s.who 1=s.b:=rfl
theorem zav {w:Int} (h:Lk.endB w=true):w=0∨w=1:=of_decide_eq_true h
def newT (n:Int):Tt:=⟨newE n,newE n,[]⟩
def zde (s:Tt) (w:Int) (d:ByteArray):Int:=if Lk.endB w=true then zee (s.who w) d else 1
def zci (s:Tt) (w:Int) (d:ByteArray):Tt:=if Lk.endB w=true then s.set w (za9 (s.who w) d) else s
def zfk (s:Tt) (w n:Int):Int:=if Lk.endB w=true then readF (s.who w) n else 1
def zfx (s:Tt) (w n:Int):ByteArray:=if Lk.endB w=true then zdc (s.who w) n else nilB
def zdg (s:Tt) (w n:Int):Tt:=if Lk.endB w=true then s.set w (zbg (s.who w) n) else s
def zcj (s:Tt) (w:Int):Int:=if Lk.endB w=true then (if 40≤s.ls.length then 4 else 0) else 1
def zca (s:Tt) (w:Int):Tt:=if zcj s w=0 then {s.set w (zbn (s.who w)) with ls:=s.ls++ [(1-w,zbj (s.who w))]} else s
def zfy (s:Tt) (i:Int):Int:=if Lk.onB s.ls i=true then (zbf (s.who (Lk.at' s.ls i.toNat).1) (Lk.at' s.ls i.toNat).2).1 else 1
def zdx (s:Tt) (i:Int):Tt:=if Lk.onB s.ls i=true then {s.set (Lk.at' s.ls i.toNat).1 (zbf (s.who (Lk.at' s.ls i.toNat).1) (Lk.at' s.ls i.toNat).2).2 with ls:=Lk.cut1 s.ls i.toNat} else s
def zd0 (s:Tt) (i:Int):Tt:= {s with ls:=Lk.zng s.ls i}
def zeu (s:Tt) (i:Int):Tt:= {s with ls:=Lk.twS s.ls i}
structure TGood (n:Int) (K:Nat) (s:Tt) (r q r' q':Nat):Prop where
 tk:Tk n s.a s.b r q r' q'
 ma:s.a.m≤K
 mb:s.b.m≤K
 li:Lk.Inv s.ls
 lt:∀x∈s.ls,LtOk (s.who (1-x.1)) x.2
section
variable {n : Int} {K : Nat} {s : Tt} {r q r' q' : Nat}
theorem TGood.new (hn:Cx.winB n=true):TGood n 0 (newT n) 0 0 0 0:=⟨Tk.new hn,Nat.le_refl _,Nat.le_refl _,Lk.Inv.start,fun x hx=>by simp [newT] at hx⟩
theorem TGood.more (h:TGood n K s r q r' q') {K':Nat} (hK:K≤K'):TGood n K' s r q r' q':=⟨h.tk,Nat.le_trans h.ma hK,Nat.le_trans h.mb hK,h.li,h.lt⟩
theorem TGood.inv (h:TGood n K s r q r' q') {w:Int} (hw:Lk.endB w=true):EInv (s.who w):=by
 rcases zav hw with rfl | rfl
 ·exact h.tk.xi
 ·exact h.tk.yi
theorem TGood.next (h:TGood n K s r q r' q') {w:Int} (hw:Lk.endB w=true):zai (s.who w)≤(K:Int):=by
 rcases zav hw with rfl | rfl
 ·have:=h.tk.g.ym;have:=h.mb;rw [zu3];omega
 ·have:=h.tk.f.ym;have:=h.ma;rw [zwg];omega
theorem TGood.made (h:TGood n K s r q r' q') (hK:K≤1073741823) {w:Int} (hw:Lk.endB w=true):zcb (s.who w)=0:=by
 refine zts (h.inv hw) ?_
 rcases zav hw with rfl | rfl
 ·have:=h.ma;rw [zu3];omega
 ·have:=h.mb;rw [zwg];omega
theorem TGood.letters (h:TGood n K s r q r' q') {l:List Lk.LR} (hi:Lk.Inv l) (hm:∀x∈l,x∈s.ls):TGood n K {s with ls:=l} r q r' q':=⟨h.tk,h.ma,h.mb,hi,fun x hx=>h.lt x (hm x hx)⟩
theorem zk3 {s:Tt} {a2 b2:En} {l:List Lk.LR} (hi:Lk.Inv l) (h:∀x∈l,LtOk (s.who (1-x.1)) x.2) (ha:∀y,LtOk s.a y→LtOk a2 y) (hb:∀y,LtOk s.b y→LtOk b2 y):∀x∈l,LtOk ((⟨a2,b2,l⟩:Tt).who (1-x.1)) x.2:=fun x hx=>by
 have hx2:=h x hx
 rcases zav (hi.ok x hx).1 with e | e
 ·rw [e] at hx2 ⊢;exact hb _ hx2
 ·rw [e] at hx2 ⊢;exact ha _ hx2
theorem TGood.write (h:TGood n K s r q r' q') (w:Int) (d:ByteArray):TGood n K (zci s w d) r q r' q':=by
 unfold zci
 split
 ·rename_i hw
  have hm:∀e:En,(za9 e d).m=e.m:=fun e=>by unfold za9;split<;>rfl
  rcases zav hw with rfl | rfl
  ·obtain ⟨h1,h2⟩:=h.tk.write d
   exact ⟨h1,by rw [show (s.set 0 (za9 (s.who 0) d)).a=za9 s.a d from rfl,hm];exact h.ma,h.mb,h.li,zk3 (s:=s) h.li h.lt h2 (fun _ k=>k)⟩
  ·obtain ⟨h1,h2⟩:=h.tk.swap.write d
   exact ⟨h1.swap,h.ma,by rw [show (s.set 1 (za9 (s.who 1) d)).b=za9 s.b d from rfl,hm];exact h.mb,h.li,zk3 (s:=s) h.li h.lt (fun _ k=>k) h2⟩
 ·exact h
theorem zo0 (e:En) (m:Int):(zbg e m).m=e.m∧(zbg e m).d=e.d:=by unfold zbg;split<;>exact ⟨rfl,rfl⟩
theorem TGood.read (h:TGood n K s r q r' q') {w:Int} (hw:Lk.endB w=true) {m:Int} (hm:0≤m):readF (s.who w) m=0∧∃q2 q2',TGood n K (zdg s w m) r q2 r' q2'∧((w=0∧q2=q∧q'≤q2'∧q2'≤r'∧zdc s.a m=s.b.d.extract q' q2'∧(60≤m→q2'=r'))∨(w=1∧q2'=q'∧q≤q2∧q2≤r∧zdc s.b m=s.a.d.extract q q2∧(60≤m→q2=r))):=by
 unfold zdg
 rw [if_pos hw]
 rcases zav hw with rfl | rfl
 ·obtain ⟨h1,q2,h2,h3,h4,h5,h6,h7⟩:=h.tk.swap.read m hm
  exact ⟨h1,q,q2,⟨h5.swap,by rw [show (s.set 0 (zbg (s.who 0) m)).a=zbg s.a m from rfl,(zo0 _ _).1];exact h.ma,h.mb,h.li,zk3 (s:=s) h.li h.lt h6 (fun _ k=>k)⟩,.inl ⟨rfl,rfl,h3,h4,h2,h7⟩⟩
 ·obtain ⟨h1,q2,h2,h3,h4,h5,h6,h7⟩:=h.tk.read m hm
  exact ⟨h1,q2,q',⟨h5,h.ma,by rw [show (s.set 1 (zbg (s.who 1) m)).b=zbg s.b m from rfl,(zo0 _ _).1];exact h.mb,h.li,zk3 (s:=s) h.li h.lt (fun _ k=>k) h6⟩,.inr ⟨rfl,rfl,h3,h4,h2,h7⟩⟩
theorem zdz {e:En} (h:zcb e=0):(zbj e).size≤200:=by
 rw [zmu h]
 exact (zie h).2.2.2.2
theorem zCe {w:Int} (h:zcj s w=0):Lk.endB w=true∧s.ls.length<40:=by
 unfold zcj at h
 split at h
 ·rename_i hw
  split at h
  ·cases h
  ·exact ⟨hw,by omega⟩
 ·cases h
theorem TGood.send (h:TGood n K s r q r' q') (hK:K≤1073741823) (w:Int):TGood n (K+1) (zca s w) r q r' q':=by
 unfold zca
 split
 ·rename_i hs
  obtain ⟨hw,hl⟩:=zCe hs
  have hmk:=h.made hK hw
  have hmm:∀e:En,zcb e=0→(zbn e).m=e.m+1:=fun e he=>by rw [zd6 he]
  have hi:Lk.Inv (s.ls++ [(1-w,zbj (s.who w))]):=h.li.add (by rcases zav hw with rfl | rfl<;>rfl) hl (zdz hmk)
  rcases zav hw with rfl | rfl
  ·obtain ⟨h1,h2,h3⟩:=h.tk.make hmk
   refine ⟨h1,?_,Nat.le_succ_of_le h.mb,hi,fun x hx=> ?_⟩
   ·show (zbn s.a).m≤K+1
    rw [show (zbn s.a).m=s.a.m+1 from hmm _ hmk];exact Nat.succ_le_succ h.ma
   ·rcases List.mem_append.1 hx with hx | hx
    ·rcases zav (h.li.ok x hx).1 with e | e
     ·have hx2:=h.lt x hx
      rw [e] at hx2 ⊢;exact hx2
     ·have hx2:=h.lt x hx
      rw [e] at hx2 ⊢;exact h2 _ hx2
    ·obtain rfl:x=(1-0,zbj (s.who 0)):=by simpa using hx
     exact h3
  ·obtain ⟨h1,h2,h3⟩:=h.tk.swap.make hmk
   refine ⟨h1.swap,Nat.le_succ_of_le h.ma,?_,hi,fun x hx=> ?_⟩
   ·show (zbn s.b).m≤K+1
    rw [show (zbn s.b).m=s.b.m+1 from hmm _ hmk];exact Nat.succ_le_succ h.mb
   ·rcases List.mem_append.1 hx with hx | hx
    ·rcases zav (h.li.ok x hx).1 with e | e
     ·have hx2:=h.lt x hx
      rw [e] at hx2 ⊢;exact h2 _ hx2
     ·have hx2:=h.lt x hx
      rw [e] at hx2 ⊢;exact hx2
    ·obtain rfl:x=(1-1,zbj (s.who 1)):=by simpa using hx
     exact h3
 ·exact h.more (Nat.le_succ _)
theorem TGood.come (h:TGood n K s r q r' q') (hK:K≤120) (i:Int):∃r2 r2',r≤r2∧r'≤r2'∧TGood n K (zdx s i) r2 q r2' q':=by
 unfold zdx
 split
 ·rename_i ho
  obtain ⟨p,rfl,hp⟩:=Lk.ze2 ho
  rw [Int.toNat_natCast]
  have hx:=Lk.at_mem hp
  have hok:=(h.li.ok _ hx).1
  have hlt:=h.lt _ hx
  have hcut:=h.letters (h.li.cut p) (fun y hy=>Lk.zl1 hy)
  generalize Lk.at' s.ls p=x at *
  obtain ⟨rc,bs⟩:=x
  simp only at hok hlt ⊢
  rcases zav hok with rfl | rfl
  ·have hl2:LtOk s.b bs:=hlt
   obtain ⟨_,e | e | ⟨y2,r2,e1,e2,e3,e4,e5,e6⟩⟩:=h.tk.swap.take hl2 (Nat.le_trans h.mb hK)
   ·refine ⟨r,r',Nat.le_refl _,Nat.le_refl _,?_⟩
    rw [zu3,e];exact hcut
   ·refine ⟨r,r',Nat.le_refl _,Nat.le_refl _,?_⟩
    rw [zu3,e];exact hcut
   ·refine ⟨r,r2,Nat.le_refl _,e2,?_⟩
    rw [zu3,e1]
    exact ⟨e3.swap,by show y2.m≤K;rw [e5];exact h.ma,h.mb,h.li.cut p,zk3 (s:=s) (h.li.cut p) hcut.lt e4 (fun _ k=>k)⟩
  ·have hl2:LtOk s.a bs:=hlt
   obtain ⟨_,e | e | ⟨y2,r2,e1,e2,e3,e4,e5,e6⟩⟩:=h.tk.take hl2 (Nat.le_trans h.ma hK)
   ·refine ⟨r,r',Nat.le_refl _,Nat.le_refl _,?_⟩
    rw [zwg,e];exact hcut
   ·refine ⟨r,r',Nat.le_refl _,Nat.le_refl _,?_⟩
    rw [zwg,e];exact hcut
   ·refine ⟨r2,r',e2,Nat.le_refl _,?_⟩
    rw [zwg,e1]
    exact ⟨e3,h.ma,by show y2.m≤K;rw [e5];exact h.mb,h.li.cut p,zk3 (s:=s) (h.li.cut p) hcut.lt (fun _ k=>k) e4⟩
 ·exact ⟨r,r',Nat.le_refl _,Nat.le_refl _,h⟩
theorem TGood.lose (h:TGood n K s r q r' q') (i:Int):TGood n K (zd0 s i) r q r' q':=by
 refine h.letters (h.li.give i) (fun y hy=> ?_)
 cases e:Lk.onB s.ls i with
 | true=>rw [Lk.zeo e] at hy;exact Lk.zl1 hy
 | false=>rw [Lk.zg3 e] at hy;exact hy
theorem TGood.twice (h:TGood n K s r q r' q') (i:Int):TGood n K (zeu s i) r q r' q':=by
 refine h.letters (h.li.twice i) (fun y hy=> ?_)
 cases e:Lk.onB s.ls i with
 | false=>rw [Lk.zno (by rw [Lk.zk6 e];decide)] at hy;exact hy
 | true=>
  obtain ⟨p,rfl,hp⟩:=Lk.ze2 e
  unfold Lk.twS at hy
  split at hy
  ·rcases List.mem_append.1 hy with hy | hy
   ·exact hy
   ·obtain rfl:y=Lk.at' s.ls p:=by simpa using hy
    exact Lk.at_mem hp
  ·exact hy
end
end Go.Proofs.YtdnehibcpkjafaaGreatDoor
namespace Go.Proofs.YtdnehibcpkjafaaGreatDoor
open Go.RowKit Go.Lib Go.Sort
section
variable {n : Int} {x y : En} {r q r' q' : Nat}
end
structure Fin2 (n:Int) (i:Nat) (s:Tt) (r q r' q':Nat):Prop where
 tk:Tk n s.a s.b r q r' q'
 ma:s.a.m≤40+i
 mb:s.b.m≤40+i
 ls:s.ls= []
 eq:1≤i→q=r∧q'=r'∧Ready s.a r
 pr:1≤i→(r=s.a.d.size∨i≤r+1)∧(r'=s.b.d.size∨i≤r'+1)
section
variable {n : Int} {i : Nat} {s : Tt} {r q r' q' : Nat}
end
def seqL (m:Nat):List R:=if m=0 then [] else [(0,(m:Int)-1)]
structure Sil (n:Int) (K:Nat) (x y:En):Prop where
 tk:Tk n x y 0 0 0 0
 dx:x.d=nilB
 dy:y.d=nilB
 cx:x.cm=seqL y.m
 cy:y.cm=seqL x.m
 mx:x.m≤K
 my:y.m≤K
end Go.Proofs.YtdnehibcpkjafaaGreatDoor
