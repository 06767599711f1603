/- What TalkPlays needs. -/
import Derived.Test.YtdnehibcpkjafaaGreatDoorHDC
import Derived.Test.YtdnehibcpkjafaaGreatDoorHDD
set_option linter.unusedVariables false
set_option linter.unusedSimpArgs false
set_option maxRecDepth 100000
set_option maxHeartbeats 8000000
namespace Go.Proofs.YtdnehibcpkjafaaGreatDoor
open Go.RowKit Go.Lib Go.Sort
theorem zDh {w:World} {B eb sb cb:Nat} {vm vc:Value} {us:List Value} {md:List (List Pc)} {e:En} (h:DO w B eb vm vc sb cb us md e) (b:ByteArray) (hnx:zai e≤1073741823) (hl:b.size≤200) (n:Int) (fs:List F) (h1:rdP b (zai e)=some (n,fs)) (hmem:memB e.cm n=false):Calls Tryz.prog 40 #[.pointer (some ⟨eb,0,none⟩),.string b] w fun ex w'=>ex= .returned (.int .i64 (come e n fs).1)∧DTurn w w' B eb vm vc sb cb us (come e n fs).2:=by
 have HO:Hid (DO w B eb vm vc sb cb us md e):=h
 have HR:Hid (Row w vc e.cm):=zbo h.cm (by have:=((zbv e.cm).1 h.inv.cm).1;omega)
 have hlt:=h.lt
 have c64:=h.cl 64 (by omega)
 rw [zjq] at c64
 obtain ⟨aoc,cc,hvc⟩:=za3 h.cm
 rw [hvc] at c64 HR
 have HVC:Hid (vc= .slice aoc e.cm.length cc):=hvc
 have HNX:Hid (zai e≤1073741823):=hnx
 clear hvc hnx
 have HMN:Hid (memB e.cm n=false):=hmem
 have HMY:Hid (isN n=true):=zh3 h1
 have HL12:Hid (fs.length≤12):=zmn h1
 have HOP:=zov b (zai e) w ((U.zas _).2 ⟨ziq h.inv,HNX.out⟩) hl n fs h1
 have HIN:=fun X (hX:Below w.heap.size w X)=>Lx.zn4 _ e.cm n X (HR.out.below hX)
 rw [hmem] at HIN
 obtain ⟨cf,hcf⟩:∃cf,(come e n fs).1=cf:=⟨_,rfl⟩
 rw [hcf]
 have HCF:Hid ((come e n fs).1=cf):=hcf
 have hz1:=zy9
 have hz2:=zoz
 have hz3:=zm9
 have HC1:=fun X=>zmg X 60 (zen e.t) (zen 0) 61
 have HC2:=fun X=>zmg X 61 (zfc e.s) (zfc s0) 127
 have HC3:=fun X=>zmg X 4 (zaz e.c) (zaz ⟨0,0,0,0⟩) 124
 generalize (row 60 (zen 0)).toArray=Z1 at hz1 HC1
 generalize (row 61 (zfc s0)).toArray=Z2 at hz2 HC2
 generalize (row 4 (zaz ⟨0,0,0,0⟩)).toArray=Z3 at hz3 HC3
 have HT1:=zot e.t
 have HT2:=zni e.s
 have HT3:=zdt e.c
 have hsb:=h.st.lt
 have hcb:=h.cr.lt
 clear h hl h1 hmem hcf
 go_enter Tryz.func40,Tryz.ntmps40
 go_upto_if 29 with fail
 go_cut [5] (fun s5 wx=>s5= .int .i64 (zai e)∧w=wx)
 case first=>
  cases hcm:e.cm with
  | nil=>
   have hn0:zai e=0:=by unfold zai;rw [hcm]
   rw [hcm] at c64
   have HN0:Hid (zai e=0):=hn0
   clear hn0
   have gl:¬(0:Int)<(([]:List R).length:Int):=by simp
   go_wp2_with fail
   go_meet
   exact ⟨by rw [HN0.out],rfl⟩
  | cons r0 rs=>
   have hn0:zai e=r0.2+1:=by unfold zai;rw [hcm]
   have hl0:0<e.cm.length:=by rw [hcm];simp
   obtain ⟨b0,o0,hao,hb0,hC⟩:∃b o,aoc=some ⟨b,o,none⟩∧b<w.heap.size∧Cells w b o e.cm:=by
    obtain ⟨ao',c',h1,_,_,h2⟩:=HR.out
    injection h1 with i1 i2 i3
    subst i1
    rcases h2 with h2 | h2
    ·rw [h2] at hl0;simp at hl0
    ·exact h2
   subst hao
   obtain ⟨_,c1⟩:=hC 0 hl0
   have c1':w.cell? ⟨b0,o0+1,none⟩=some (.int .i64 r0.2):=by
    rw [show o0+0*2+1=o0+1 by omega] at c1
    rw [c1]
    simp [at',hcm]
   have hn1:=HNX.out
   rw [hn0] at hn1
   have hmx:¬(1073741823:Int)<r0.2+1:=by omega
   have hlo:0≤r0.2:=by
    have hg:=(zbv e.cm).1 HO.out.inv.cm
    have:=zb8 hg.2.2 r0 (by rw [hcm];exact List.mem_cons_self)
    have:=(hg.2.1 r0 (by rw [hcm];exact List.mem_cons_self)).1
    omega
   generalize r0.2=z at *
   have HN0:Hid (zai e=z+1):=hn0
   have gl:(0:Int)<((r0::rs).length:Int):=by simp
   rw [hcm] at c64
   generalize hln:(r0::rs).length=ln at c64 gl ⊢
   clear hC c1 hn0 hln hcm hl0
   go_wp2_with fail
   go_meet
   exact ⟨by rw [HN0.out],rfl⟩
 case rest=>
 obtain ⟨rfl,rfl⟩:=hcut
 go_wp2_with fail
 refine HOP.mono ?_
 rintro ex w1 ⟨v1,us1,rfl,hF1,hb1⟩
 have q64:=(hb1.cell (p:=⟨eb,64,none⟩) hlt).trans c64
 obtain ⟨a1,c1,hv1⟩:=za3 hF1.own
 subst hv1
 clear HOP
 go_wp2_with fail
 refine (HIN _ hb1).mono ?_
 rintro ex w2 ⟨rfl,hb3⟩
 have hB2:=hb1.trans (hb3.mono hb1.size)
 have hF2:=hF1.below hb3
 clear HIN hF1 hb1 hb3 q64 c64
 obtain ⟨W1,HW1,hth1,hr1,hf1,hbW1,hs1⟩:=HC1 w2
 have hrg1:=(HO.out.below hB2).told_range
 go_upto_region 13 with (first | (refine za7 (n:=60) (f:=zen e.t) (ty:=61) rfl (.tmp 59) rfl eb 1 rfl hrg1 (by kernel_rfl) (by kernel_rfl) ?_) | (refine zay (n:=60) (f:=zen e.t) (ty:=61) rfl (.tmp 10) (.tmp 60) rfl w2.heap.size 0 rfl rfl hth1 (by kernel_rfl) HT1 HW1 ?_))
 have hB3:=hB2.trans (hbW1.mono hB2.size)
 have hF3:=hF2.below hbW1
 have HTB:Hid (TBox W1 w2.heap.size e.t):=zmd hr1 hf1
 have HB2:Hid (Below w.heap.size w w2):=hB2
 obtain ⟨T,hT⟩:∃T,w2.heap.size=T:=⟨_,rfl⟩
 have HTW:Hid (w2.heap.size=T):=hT
 rw [hT] at HTB hs1 ⊢
 have HFL:Hid (FOwn w2 w.heap.size (.slice a1 fs.length c1) us1 fs):=hF2
 clear hrg1 HC1 HW1 hth1 hr1 hf1 hbW1 hB2 hF2 hT hz1 HT1
 have hD3:=HO.out.below hB3
 have d61:=hD3.cl 61 (by omega)
 have d63:=hD3.cl 63 (by omega)
 have d65:=hD3.cl 65 (by omega)
 rw [zyb] at d61
 rw [zuj] at d63
 rw [zl8] at d65
 have hrg2:=zke hD3.st
 obtain ⟨W2,HW2,hth2,hr2,hf2,hbW2,hs2⟩:=HC2 W1
 clear hD3
 go_upto_region 16 with (first | (refine za7 (n:=61) (f:=zfc e.s) (ty:=127) rfl (.tmp 73) rfl sb 0 rfl hrg2 (by kernel_rfl) (by kernel_rfl) ?_) | (refine zay (n:=61) (f:=zfc e.s) (ty:=127) rfl (.tmp 13) (.tmp 74) rfl W1.heap.size 0 rfl rfl hth2 (by kernel_rfl) HT2 HW2 ?_))
 have hB4:=hB3.trans (hbW2.mono hB3.size)
 have hF4:=hF3.below hbW2
 have HTB2:Hid (TBox W2 T e.t):=HTB.out.below hbW2
 have HSB:Hid (Sx.Ref W2 B W1.heap.size e.s):=zib HO.out.inv.s hr2 (fun i _=>hf2 i) (Nat.le_trans HO.out.le hB3.size)
 obtain ⟨S,hS⟩:∃S,W1.heap.size=S:=⟨_,rfl⟩
 have HS1:Hid (T<S):=by rw [←hS];exact hs1
 rw [hS] at HSB hs2 ⊢
 clear hrg2 HC2 HW2 hth2 hr2 hf2 hbW2 hB3 hF3 hS hz2 HT2 HTB hs1 d61 d63 d65
 have hD4:=HO.out.below hB4
 have d66:=hD4.cl 66 (by omega)
 rw [zkd] at d66
 have hrg3:=zdn hD4.cr
 obtain ⟨W3,HW3,hth3,hr3,hf3,hbW3,hs3⟩:=HC3 W2
 clear hD4
 go_upto_region 17 with (first | (refine za7 (n:=4) (f:=zaz e.c) (ty:=124) rfl (.tmp 79) rfl cb 0 rfl hrg3 (by kernel_rfl) (by kernel_rfl) ?_) | (refine zay (n:=4) (f:=zaz e.c) (ty:=124) rfl (.tmp 14) (.tmp 80) rfl W2.heap.size 0 rfl rfl hth3 (by kernel_rfl) HT3 HW3 ?_))
 have hB5:=hB4.trans (hbW3.mono hB4.size)
 have HOF:Hid (FOwn W3 w.heap.size (.slice a1 fs.length c1) us1 fs):=hF4.below hbW3
 have HBW:Hid (Below w.heap.size w W3):=hB5
 obtain ⟨C,hC⟩:∃C,W2.heap.size=C:=⟨_,rfl⟩
 have HST:Hid (T<S∧S<C):=by
  have:=HS1.out
  exact ⟨this,by rw [←hC];exact hs2⟩
 have HDT:Hid (DT W3 W3 B T S C e):=by
  have hst:=HST.out
  refine ⟨HTB2.out.below hbW3,HSB.out.below hbW3,?_,Off.refl _ _,by omega,by omega,by omega⟩
  rw [←hC]
  exact ze1 HO.out.inv.c hr3 hf3 (Nat.le_trans HO.out.le hB4.size)
 rw [hC]
 clear hrg3 HC3 HW3 hth3 hr3 hf3 hbW3 hB4 hB5 hF4 hC hz3 HT3 HTB2 HSB HS1 d66 hs2 hs3
 have HFB:Hid (∀q,((Value.slice a1 fs.length c1).ownBlock=some q∨∃j,j<fs.length∧(uat us1 j).ownBlock=some q)→q<T):=by
  show∀q,_→_
  intro q hq
  rw [←HTW.out]
  rcases hq with hq | ⟨j,hj,hq⟩
  ·exact (HFL.out.own.lt q hq).2
  ·exact zi7 HFL.out hj hq
 clear HFL
 generalize hM:fs.length=m at HOF HFB ⊢
 have HM:Hid (fs.length=m):=hM
 clear hM
 go_wp2_with fail
 go_loopg [11,12,15] m (fun gk s11 s12 s15 wr=>∃(k:Nat) (e':En),gk+k=m∧s11= .int .i64 e'.l∧s12= .int .i64 e'.k∧s15= .int .i64 k∧Hid (runF fs e=runF (fs.drop k) e')∧Hid (EInv e')∧Hid (e'.d=e.d∧e'.m=e.m∧e'.ls=e.ls∧e'.cm=e.cm∧e.t≤e'.t)∧Hid (DT W3 wr B T S C e'))
 case atStart=>exact ⟨0,e,by omega,rfl,rfl,rfl,rfl,HO.out.inv,(show _∧_ from ⟨rfl,rfl,rfl,rfl,Nat.le_refl _⟩),HDT⟩
 case round=>
  obtain ⟨k,e',hk,rfl,rfl,rfl,HR2,HI,HSM,HD⟩:=hrel
  have HK:Hid (gk+k=m):=hk
  clear hk
  have WW:=HD.out.off
  have hm12:m≤12:=by have:=HL12.out;have:=HM.out;omega
  by_cases g:(k:Int)<(m:Int)
  ·have HOFr:Hid (FOwn wr w.heap.size (.slice a1 m c1) us1 fs):=HOF.out.off WW (fun q hq e1=>by have:=HFB.out q (.inl hq);have:=HST.out;rcases e1 with e1 | e1 | e1<;>omega) (fun j hj q hq e1=>by have:=HFB.out q (.inr ⟨j,by have:=HM.out;omega,hq⟩);have:=HST.out;rcases e1 with e1 | e1 | e1<;>omega)
   have hkl:k<fs.length:=by have:=HM.out;omega
   obtain ⟨gb,capv,hv1,_,hgb⟩:=HOFr.out.own.form (by have:=HM.out;omega)
   rw [HM.out] at hv1
   injection hv1 with i1 i2 i3
   subst i1 i3
   have hown:=HOFr.out.own
   rw [HM.out] at hown
   have fg:=zkh us1 fs k HOFr.out.len hkl
   have y0:=hown.cellAt (k*3) (by omega)
   have y1:=hown.cellAt (k*3+1) (by omega)
   have y2:=hown.cellAt (k*3+2) (by omega)
   rw [fg.1] at y0
   rw [fg.2.1] at y1
   rw [fg.2.2] at y2
   have hui:=HOFr.out.rows k hkl
   have hgood:=HOFr.out.good k hkl
   have hdr:=zFv hkl
   have HRN:Hid (runF fs e=runF (fat fs k::fs.drop (k+1)) e'):=by show _=_;rw [HR2.out,hdr]
   have hsz:=zio hgood
   have hub:∀q,(uat us1 k).ownBlock=some q→q<T:=fun q hq=>HFB.out q (.inr ⟨k,by have:=HM.out;omega,hq⟩)
   have hgT:gb<T:=HFB.out gb (.inl rfl)
   obtain ⟨ua,uc,hus⟩:=za3 hui
   have HUI:Hid (OwnI wr w.heap.size (uat us1 k) (fat fs k).2.1):=hui
   rw [hus] at y1 HUI
   have HUB:Hid (∀q,(Value.slice ua (fat fs k).2.1.length uc).ownBlock=some q→q<T):=by rw [←hus];exact hub
   have HGD:Hid (fF (fat fs k)=0):=hgood
   clear hdr hui hgood fg hown hub hus hkl
   generalize fat fs k=f at *
   obtain ⟨fk,fns,fd⟩:=f
   simp only at y0 y1 y2 HUI HRN HUB hsz
   have HOK:Hid (zbk fk=true∧cntB fk fns.length=true∧(fk≠3→fd.size=0)∧Mays fns∧fd.size≤20∧(fk=2→Good (rgs fns))):=zdj HGD.out
   have hl24:fns.length≤24:=hsz.1
   have hd20:fd.size≤20:=hsz.2
   clear hsz
   by_cases f2:fk=2
   ·subst f2
    as_aux_lemma=>
     have hcn:0<fns.length∧fns.length%2=0∧fns.length≤24:=by have:=HOK.out.2.1;simpa [cntB] using this
     obtain ⟨hi0,lo0,rest,rfl⟩:∃hi0 lo0 rest,fns=hi0::lo0::rest:=by
      match fns,hcn with
      | [],h=>simp at h
      | [a],h=>simp at h
      | a::c::r,_=>exact ⟨a,c,r,rfl⟩
     obtain ⟨M,hM⟩:∃M,(hi0::lo0::rest).length=2*M:=⟨(hi0::lo0::rest).length/2,by omega⟩
     have hM1:1≤M:=by simp at hM;omega
     have hM12:M≤12:=by omega
     have hRL:(rgs (hi0::lo0::rest)).length=M:=zcr M _ hM
     have hdr:=zAf _ _ M wr (ze4 HUI.out (by omega)) hM hM1 hM12
     have HG:Hid (Good (rgs (hi0::lo0::rest))):=HOK.out.2.2.2.2.2 rfl
     have HR0:Hid (at' (rgs (hi0::lo0::rest)) 0=(lo0,hi0)):=by show _=_;simp [rgs,at']
     have HFS:Hid (first (hi0::lo0::rest)=hi0):=rfl
     have hh:=HOK.out.2.2.2.1 hi0 List.mem_cons_self
     have HST0:Hid (stpE e' (2,hi0::lo0::rest,fd)=if (e.m:Int)≤hi0 then (6,e') else (0,{e' with k:=max e'.k hi0,t:=tells e'.ls e'.t (rgs (hi0::lo0::rest))})):=by
      show _=_
      simp only [stpE,if_true,HFS.out,HSM.out.2.1]
     generalize hrs:rgs (hi0::lo0::rest)=rs at *
     generalize hul:(hi0::lo0::rest).length=ul at *
     have HRL:Hid (rs.length=M):=hRL
     clear hcn hrs hul hRL hM
     go_upto_region 24 with (go_at_call 66;refine hdr.mono ?_;rintro ex w4 ⟨v4,rfl,ho4,hb4⟩)
     rw [HRL.out] at ho4
     obtain ⟨gr,c4,hv4⟩:=zl4 ho4 hM1
     subst hv4
     have HGR:Hid (T<gr):=by
      have:=(ho4.lt gr rfl).1
      have:=HD.out.tb.lt
      show T<gr
      omega
     have HCL:Hid (Cells w4 gr 0 rs):=zc9 ho4
     have HD4:Hid (DT W3 w4 B T S C e'):=HD.out.below hb4
     have HBr:Hid (Below w.heap.size w w4):=HBW.out.trans (HD4.out.off.below (fun j hj=>by have:=HTW.out;have:=HST.out;have:=HB2.out.size;rcases hj with hj | hj | hj<;>omega) HBW.out.size)
     have hE4:=HO.out.below HBr.out
     have d62:=hE4.cl 62 (by omega)
     rw [zka] at d62
     obtain ⟨am,ccm,hvm⟩:=za3 hE4.rm
     have HUL:Hid (us.length=e.m):=hE4.ul
     rw [hvm,HUL.out] at d62
     have x01:w4.cell? ⟨gr,1,none⟩=some (.int .i64 hi0):=by
      have:=(HCL.out 0 (by have:=HRL.out;omega)).2
      rw [HR0.out] at this
      exact this
     have hm9:=HO.out.inv.m1
     clear hE4 hdr ho4 hb4 y0 y1 y2 hvm
     by_cases g6:(e.m:Int)≤hi0
     ·have HSP:Hid (stpE e' (2,hi0::lo0::rest,fd)=(6,e')):=by show _=_;rw [HST0.out,if_pos g6]
      have HNZ:Hid ((6:Int)≠0):=by show (6:Int)≠0;decide
      have WW:=HD4.out.off
      have HCM:Hid (come e n fs=(6,e)):=by
       show _=_
       unfold come
       rw [if_neg (by rw [HMN.out];decide),HRN.out,zei (by rw [HSP.out];exact HNZ.out),HSP.out,if_pos HNZ.out]
      have hcf2:cf=6:=by rw [←HCF.out,HCM.out]
      subst hcf2
      clear HST0 HSP HRN
      go_quiet (fail)
      go_wp2_with fail
      go_ret
      refine ⟨rfl,?_⟩
      rw [HCM.out]
      exact DTurn.below HO.out (by repeat (first | exact HBr.out | exact below_drewN HBr.out _ | refine Below.drew ?_))
     ·have HSP:Hid (stpE e' (2,hi0::lo0::rest,fd)=(0,{e' with k:=max e'.k hi0,t:=tells e'.ls e'.t rs})):=by show _=_;rw [HST0.out,if_neg g6]
      have HN2:Hid (runF fs e=runF (fs.drop (k+1)) {e' with k:=max e'.k hi0,t:=tells e'.ls e'.t rs}):=by show _=_;rw [HRN.out,zff (by rw [HSP.out]),HSP.out]
      have HI2:Hid (EInv {e' with k:=max e'.k hi0,t:=tells e'.ls e'.t rs}):=by
       have:=HI.out.stp HGD.out
       rw [HSP.out] at this
       exact this
      have HTG:Hid (e'.t≤tells e'.ls e'.t rs):=(zra (b:=en e') (fun y hy=>(HI.out.ls y hy).2.2.2) rs e'.t HI.out.t1).1
      have HSM2:Hid (({e' with k:=max e'.k hi0,t:=tells e'.ls e'.t rs}:En).d=e.d∧({e' with k:=max e'.k hi0,t:=tells e'.ls e'.t rs}:En).m=e.m∧({e' with k:=max e'.k hi0,t:=tells e'.ls e'.t rs}:En).ls=e.ls∧({e' with k:=max e'.k hi0,t:=tells e'.ls e'.t rs}:En).cm=e.cm∧e.t≤({e' with k:=max e'.k hi0,t:=tells e'.ls e'.t rs}:En).t):=by
       have h1:=HSM.out
       have h2:=HTG.out
       exact ⟨h1.1,h1.2.1,h1.2.2.1,h1.2.2.2.1,Nat.le_trans h1.2.2.2.2 h2⟩
      have HLS:Hid (e'.ls=e.ls):=HSM.out.2.2.1
      have HET:Hid (e.t≤e'.t):=HSM.out.2.2.2.2
      have HHI:Hid (hi0<(e.m:Int)):=by show _<_;omega
      have k0:=HI.out.k0
      have hT4:=fun q=>HD4.out.tb.below (below_drewN (Below.refl w4.heap.size w4) q)
      have hO4:=fun q=>Off.of_below (K:=fun j=>j=T) (below_drewN (Below.refl w4.heap.size w4) q)
      have HTw:Hid (w.heap.size≤T):=by have:=HTW.out;have:=HB2.out.size;show w.heap.size≤T;omega
      have HDX:Hid (∀X,Off (fun j=>j=T) w4 X→DO X B eb vm vc sb cb us md e):=fun X ho=>HO.out.below (HBr.out.trans (ho.below (fun j hj=>by rw [hj];exact HTw.out) HBr.out.size))
      have hgT2:gr≠T:=by have:=HGR.out;omega
      have HRX:Hid (∀X,Off (fun j=>j=T) w4 X→∀kk,kk<M→X.cell? ⟨gr,kk*2,none⟩=some (.int .i64 (at' rs kk).1)∧X.cell? ⟨gr,kk*2+1,none⟩=some (.int .i64 (at' rs kk).2)):=fun X ho kk hkk=>by
       have:=HCL.out kk (by have:=HRL.out;omega)
       rw [Nat.zero_add] at this
       exact ⟨ho.cell this.1 hgT2,ho.cell this.2 hgT2⟩
      clear HST0 HSP HRN HSM HI HGD HOK HTG WW HD HUI HUB HCL
      go_quiet (fail)
      clear d62 x01
      go_wp2_with fail
      go_loopg [17] M (fun gj s17 wx=>∃kk t1:Nat,gj+kk=M∧s17= .int .i64 kk∧Hid (t1=tells e.ls e'.t (rs.take kk))∧Hid (e.t≤t1)∧Hid (TBox wx T t1)∧Hid (Off (fun j=>j=T) w4 wx))
      case atStart=>exact ⟨0,e'.t,by omega,rfl,(show e'.t=tells e.ls e'.t (rs.take 0) from rfl),HET,hT4 _,hO4 _⟩
      case round=>
       clear hT4 hO4
       obtain ⟨kk,t1,hkk,rfl,HT1,HG1,HB1,HO1⟩:=hrel
       have HKK:Hid (gk+kk=M):=hkk
       clear hkk
       by_cases gM:(kk:Int)<(M:Int)
       ·obtain ⟨ln,hn,har,hln,hhn⟩:=zHs HG.out HR0.out (show kk<rs.length by have:=HRL.out;omega) HHI.out
        have HAR:Hid (at' rs kk=((ln:Int),(hn:Int))):=har
        have HX:Hid (∀X,Off (fun j=>j=T) w4 X→X.cell? ⟨gr,kk*2,none⟩=some (.int .i64 (ln:Int))∧X.cell? ⟨gr,kk*2+1,none⟩=some (.int .i64 (hn:Int))):=fun X ho=>by
         have:=HRX.out X ho kk (by omega)
         rw [HAR.out] at this
         exact this
        clear har
        obtain ⟨xl,xh⟩:=HX.out _ HO1.out
        go_wp2_with fail
        clear xl xh
        go_loopg [18] (hn+1-ln) (fun gj s18 wy=>∃c t2:Nat,gj+c=hn+1-ln∧s18= .int .i64 ((ln:Int)+(c:Int))∧Hid (t2=tellM (fun j=>fend (pat md j)) t1 ln c)∧Hid (e.t≤t2)∧Hid (TBox wy T t2)∧Hid (Off (fun j=>j=T) w4 wy))
        case atStart=>exact ⟨0,t1,by omega,by simp,rfl,HG1,HB1,HO1⟩
        case round=>
         obtain ⟨c,t2,hc,rfl,HT2,HG2,HB22,HO2⟩:=hrel
         have HCC:Hid (gk+c=hn+1-ln):=hc
         clear hc
         obtain ⟨xl,xh⟩:=HX.out _ HO2.out
         by_cases gc:(ln:Int)+(c:Int)≤(hn:Int)
         ·have hmm:ln+c<e.m:=by omega
          obtain ⟨pa,pb,hpp,hpab,hpat,hpben,hfend,hpall⟩:=HO.out.load hmm
          have HP:Hid (pat md (ln+c)=pcs e.d pb 3 pa∧(pa<pb∨(pa=0∧pb=0))∧pa≤e.t∧pb≤en e∧fend (pat md (ln+c))=pb∧min pb (pa+20*(pat md (ln+c)).length)=pb):=(show _∧_ from ⟨hpp,hpab,hpat,hpben,hfend,hpall⟩)
          obtain ⟨gm,cm2,aop,cu,hvm,hgm,hcm,hpc⟩:=HO.out.made_at hmm
          have HVM:Hid (vm= .slice (some ⟨gm,0,none⟩) e.m cm2):=hvm
          have hml:((ln:Int)+(c:Int)).toNat=ln+c:=by omega
          have hnp:(pat md (ln+c)).length≤3:=by rw [hpp];exact zcf _ _ _ _
          have HQ:Hid (∀X,Off (fun j=>j=T) w4 X→X.cell? ⟨eb,62,none⟩=some (.slice (some ⟨gm,0,none⟩) e.m cm2)∧X.cell? ⟨gm,ln+c,none⟩=some (.slice aop (pat md (ln+c)).length cu)):=fun X ho=>by
           have hX:=HDX.out X ho
           have h62:=hX.cl 62 (by omega)
           rw [zka,HVM.out] at h62
           exact ⟨h62,((HBr.out.trans (ho.below (fun j hj=>by rw [hj];exact HTw.out) HBr.out.size)).cell (p:=⟨gm,ln+c,none⟩) hgm).trans hcm⟩
          have HPC:Hid (∀j p,(pat md (ln+c))[j]? =some p→∃gu,aop=some ⟨gu,0,none⟩∧∀X,Off (fun j=>j=T) w4 X→X.cell? ⟨gu,j*2,none⟩=some (.int .i64 (p.1:Int))∧X.cell? ⟨gu,j*2+1,none⟩=some (.string p.2)):=fun j p hp=>by
           obtain ⟨gu,h1,h2,h3,h4⟩:=hpc j p hp
           refine ⟨gu,h1,fun X ho=> ?_⟩
           have hb:=HBr.out.trans (ho.below (fun j hj=>by rw [hj];exact HTw.out) HBr.out.size)
           exact ⟨(hb.cell (p:=⟨gu,j*2,none⟩) h2).trans h3,(hb.cell (p:=⟨gu,j*2+1,none⟩) h2).trans h4⟩
          clear hpp hpab hpat hpben hfend hpall hvm hcm hpc hgm
          generalize hnpe:(pat md (ln+c)).length=np at HQ hnp
          have HNP:Hid ((pat md (ln+c)).length=np):=hnpe
          clear hnpe
          have hme:ln+c<e.m:=hmm
          go_wp2_with fail
          clear xl xh
          go_loopg [19] np (fun gj s19 wz=>∃j t3:Nat,gj+j=np∧s19= .int .i64 j∧Hid (t3=zly t2 pa pb j)∧Hid (TBox wz T t3)∧Hid (Off (fun j=>j=T) w4 wz))
          case atStart=>exact ⟨0,t2,by omega,rfl,(show t2=zly t2 pa pb 0 from (zF2 (Nat.le_trans HP.out.2.2.1 HG2.out)).symm),HB22,HO2⟩
          case round=>
           obtain ⟨j,t3,hj,rfl,HT3,HB3,HO3⟩:=hrel
           have HJJ:Hid (gk+j=np):=hj
           clear hj
           obtain ⟨q62,qm⟩:=HQ.out _ HO3.out
           by_cases gj:(j:Int)<(np:Int)
           ·have hjl:j<(pat md (ln+c)).length:=by have:=HNP.out;omega
            obtain ⟨p,hp⟩:∃p,(pat md (ln+c))[j]? =some p:=⟨_,List.getElem?_eq_getElem hjl⟩
            obtain ⟨gu,hau,hpx⟩:=HPC.out j p hp
            subst hau
            have hpg:=hp
            rw [HP.out.1] at hpg
            have HPG:Hid (p.1=pa+20*j∧p.1+p.2.size=min pb (pa+20*(j+1))∧p.1≤t3∧p.1+p.2.size≤60):=by
             have hd:=HO.out.inv.en60
             have he:=zge e
             have h1:=zqx (d:=e.d) (b:=pb) (by have:=HP.out.2.2.2.1;omega) 3 pa j p hpg
             have h2:=HT3.out
             have h3:=HP.out.2.2.2.1
             refine (show _∧_ from ⟨h1.1,h1.2,?_,by omega⟩)
             rw [h2]
             unfold zly
             have:=zC0 (d:=e.d) (b:=pb) 3 pa j p hpg
             omega
            obtain ⟨x0,x1⟩:=hpx _ HO3.out
            obtain ⟨p1,p2⟩:=p
            simp only at x0 x1 HPG
            clear hpg hjl hp hpx
            have hps:p2.size≤60:=by have:=HPG.out;omega
            have hp60:p1≤60:=by have:=HPG.out;omega
            go_upto_region 36 with fail
            have bX:Below wr.heap.size wr (wr.alloc (.cells #[.int .i64 (p1:Int),.string p2] 131)):=(Below.refl _ _).alloc (Nat.le_refl _) _
            have HXT:Hid (T<wr.heap.size):=HB3.out.lt
            have HB4:Hid (TBox (wr.alloc (.cells #[.int .i64 (p1:Int),.string p2] 131)) T t3):=HB3.out.below bX
            have HO5:Hid (Off (fun j=>j=T) w4 (wr.alloc (.cells #[.int .i64 (p1:Int),.string p2] 131))):=HO3.out.trans (Off.of_below bX)
            have b0:(wr.alloc (.cells #[.int .i64 (p1:Int),.string p2] 131)).cell? ⟨wr.heap.size,0,none⟩=some (.int .i64 (p1:Int)):=by simp
            have b1:(wr.alloc (.cells #[.int .i64 (p1:Int),.string p2] 131)).cell? ⟨wr.heap.size,1,none⟩=some (.string p2):=by simp
            clear bX q62 qm x0 x1 HB3 HO3
            generalize wr.heap.size=X at HXT b0 b1 ⊢
            generalize wr.alloc (.cells #[.int .i64 (p1:Int),.string p2] 131)=WX at HB4 HO5 b0 b1 ⊢
            go_wp2_with fail
            go_loopg [21] p2.size (fun gj s21 wu=>∃q t4:Nat,gj+q=p2.size∧s21= .int .i64 q∧Hid (t4=max t3 (p1+q))∧Hid (TBox wu T t4)∧Hid (Off (fun j=>j=T) w4 wu)∧wu.cell? ⟨X,0,none⟩=some (.int .i64 (p1:Int))∧wu.cell? ⟨X,1,none⟩=some (.string p2))
            case atStart=>exact ⟨0,t3,by omega,rfl,(show t3=max t3 (p1+0) by have:=HPG.out;omega),HB4,HO5,b0,b1⟩
            case round=>
             clear b0 b1
             obtain ⟨q,t4,hq,rfl,HT4,HB5,HO6,b0,b1⟩:=hrel
             have HQQ:Hid (gk+q=p2.size):=hq
             clear hq
             by_cases gq:(q:Int)<(p2.size:Int)
             ·have hpq:p1+q<60:=by have:=HPG.out;omega
              have tc:=HB5.out.cl (p1+q) hpq
              have tf:=HB5.out.fz (p1+q)
              have i1:(0:Int)≤(p1:Int)+(q:Int):=by omega
              have i2:(p1:Int)+(q:Int)<60:=by omega
              have i3:((p1:Int)+(q:Int)).toNat=p1+q:=by omega
              have HM4:Hid (TBox (wr.setCell ⟨T,p1+q,none⟩ (.bool true)) T (max t4 (p1+q+1))):=HB5.out.mark (by have:=HT4.out;omega) hpq
              have HO7:Hid (Off (fun j=>j=T) w4 (wr.setCell ⟨T,p1+q,none⟩ (.bool true))):=HO6.out.setCell (a:=⟨T,p1+q,none⟩) rfl _
              have HT5:Hid (max t4 (p1+q+1)=max t3 (p1+(q+1))):=by have:=HT4.out;show _=_;omega
              have hXT:X≠T:=by have:=HXT.out;omega
              have b2:(wr.setCell ⟨T,p1+q,none⟩ (.bool true)).cell? ⟨X,0,none⟩=some (.int .i64 (p1:Int)):=by
               rw [World.cell?_setCell_other _ _ _ _ (fun e2=>by injection e2 with e2;exact hXT e2.symm)];exact b0
              have b3:(wr.setCell ⟨T,p1+q,none⟩ (.bool true)).cell? ⟨X,1,none⟩=some (.string p2):=by
               rw [World.cell?_setCell_other _ _ _ _ (fun e2=>by injection e2 with e2;exact hXT e2.symm)];exact b1
              have hgq:=HQQ.out
              go_wp2_with fail
              go_roundg (p2.size-(q+1))
              case measure=>have:=HQQ.out;omega
              case rel=>exact ⟨q+1,_,by have:=HQQ.out;omega,by go_num,HT5,HM4,HO7,b2,b3⟩
             ·have HT6:Hid (t4=zly t2 pa pb (j+1)):=by
               have h1:=HT4.out
               have h2:=HPG.out
               have h3:=HT3.out
               have h4:=HQQ.out
               show t4=_
               unfold zly at h3 ⊢
               omega
              go_wp2_with fail
              go_roundg (np-(j+1))
              case measure=>have:=HJJ.out;omega
              case rel=>exact ⟨j+1,t4,by have:=HJJ.out;omega,by go_num,HT6,HB5,HO6⟩
           ·have HT6:Hid (t3=tellM (fun j=>fend (pat md j)) t1 ln (c+1)):=by
             have h1:=HT3.out
             have h2:=HT2.out
             have h3:=HP.out.2.2.2.2
             have h4:j=(pat md (ln+c)).length:=by have:=HJJ.out;have:=HNP.out;omega
             show t3=_
             rw [h1,h4]
             unfold zly
             rw [h3.2,tellM,←h2,h3.1]
            have HG3:Hid (e.t≤t3):=by
             have h1:=HT3.out
             have h2:=HG2.out
             show e.t≤t3
             rw [h1]
             unfold zly
             omega
            go_wp2_with fail
            go_roundg (hn+1-ln-(c+1))
            case measure=>have:=HCC.out;omega
            case rel=>exact ⟨c+1,t3,by have:=HCC.out;omega,by go_num,HT6,HG3,HB3,HO3⟩
         ·have HT6:Hid (t2=tells e.ls e'.t (rs.take (kk+1))):=by
           have h1:=HT2.out
           have h2:c=hn+1-ln:=by have:=HCC.out;omega
           have h3:=HO.out.tellM hln hhn t1
           show t2=_
           rw [h1,h2,h3,HT1.out,←HAR.out]
           exact (zs4 (by have:=HRL.out;omega)).symm
          go_wp2_with fail
          go_roundg (M-(kk+1))
          case measure=>have:=HKK.out;omega
          case rel=>exact ⟨kk+1,t2,by have:=HKK.out;omega,by go_num,HT6,HG2,HB22,HO2⟩
       ·have HT6:Hid (t1=tells e'.ls e'.t rs):=by
         have h1:=HT1.out
         have h2:kk=rs.length:=by have:=HKK.out;have:=HRL.out;omega
         show t1=_
         rw [h1,h2,List.take_length,HLS.out]
        have HD2:Hid (DT W3 wr B T S C {e' with k:=max e'.k hi0,t:=tells e'.ls e'.t rs}):=by
         have h1:=HD4.out.told HB1.out HO1.out
         rw [HT6.out] at h1
         exact ⟨h1.tb,h1.st,h1.cr,h1.off,h1.ne⟩
        have x01:wr.cell? ⟨gr,1,none⟩=some (.int .i64 hi0):=by
         have:=(HRX.out wr HO1.out 0 (by omega)).2
         rw [HR0.out] at this
         exact this
        clear HT1 HB1 HO1 HRX HDX HG1
        generalize htt:tells e'.ls e'.t rs=tt at *
        by_cases gk2:e'.k<hi0
        ·have hmx:max e'.k hi0=hi0:=by omega
         rw [hmx] at HN2 HI2 HD2
         go_wp2_with fail
         go_roundg (m-(k+1))
         case measure=>have:=HK.out;omega
         case rel=>exact ⟨k+1,{e' with k:=hi0,t:=tt},by have:=HK.out;omega,rfl,rfl,by go_num,HN2,HI2,HSM2,HD2⟩
        ·have hmx:max e'.k hi0=e'.k:=by omega
         rw [hmx] at HN2 HI2 HD2
         go_wp2_with fail
         go_roundg (m-(k+1))
         case measure=>have:=HK.out;omega
         case rel=>exact ⟨k+1,{e' with k:=e'.k,t:=tt},by have:=HK.out;omega,rfl,rfl,by go_num,HN2,HI2,HSM2,HD2⟩
   by_cases f4:fk=4
   ·subst f4
    as_aux_lemma=>
     have hl1:fns.length=1:=by have:=HOK.out.2.1;simp [cntB,cntK] at this;exact this
     obtain ⟨z,rfl⟩:∃z,fns= [z]:=by
      match fns,hl1 with
      | [z],_=>exact ⟨z,rfl⟩
     have hz:=HOK.out.2.2.2.1 z (List.mem_singleton.2 rfl)
     obtain ⟨ub,ucc,hu1,_,_,hub⟩:=HUI.out.form (by simp)
     injection hu1 with i1 i2 i3
     subst i1 i3
     have x0:wr.cell? ⟨ub,0,none⟩=some (.int .i64 z):=HUI.out.cell 0 (by simp)
     have hbT:ub<T:=HUB.out ub rfl
     clear hl1
     have HST:Hid (stpE e' (4,[z],fd)=(0,{e' with l:=max e'.l z})):=by show _=_;simp [stpE,first]
     have HN2:Hid (runF fs e=runF (fs.drop (k+1)) {e' with l:=max e'.l z}):=by show _=_;rw [HRN.out,zff (by rw [HST.out]),HST.out]
     have HI2:Hid (EInv {e' with l:=max e'.l z}):=by
      have:=HI.out.stp HGD.out
      rw [HST.out] at this
      exact this
     have HSM2:Hid (({e' with l:=max e'.l z}:En).d=e.d∧({e' with l:=max e'.l z}:En).m=e.m∧({e' with l:=max e'.l z}:En).ls=e.ls∧({e' with l:=max e'.l z}:En).cm=e.cm∧e.t≤({e' with l:=max e'.l z}:En).t):=HSM.out
     have HD2:Hid (DT W3 wr B T S C {e' with l:=max e'.l z}):=⟨HD.out.tb,HD.out.st,HD.out.cr,HD.out.off,HD.out.ne⟩
     have l0:=HI.out.l0
     have l1:=HI.out.l1
     clear HST HRN HI HSM HD HGD HOK
     by_cases gz:e'.l<z
     ·have hmx:max e'.l z=z:=by omega
      rw [hmx] at HN2 HI2 HSM2 HD2
      generalize hel:e'.l=el at *
      go_wp2_with fail
      go_roundg (m-(k+1))
      case measure=>have:=HK.out;omega
      case rel=>exact ⟨k+1,{e' with l:=z},by have:=HK.out;omega,rfl,rfl,by go_num,HN2,HI2,HSM2,HD2⟩
     ·have hmx:max e'.l z=e'.l:=by omega
      rw [hmx] at HN2 HI2 HSM2 HD2
      have HEL:Hid (({e' with l:=e'.l}:En)=e'):=rfl
      rw [HEL.out] at HN2 HI2 HSM2 HD2
      go_wp2_with fail
      go_roundg (m-(k+1))
      case measure=>have:=HK.out;omega
      case rel=>exact ⟨k+1,e',by have:=HK.out;omega,rfl,rfl,by go_num,HN2,HI2,HSM2,HD2⟩
   by_cases f3:fk=3
   ·subst f3
    as_aux_lemma=>
     have hl1:fns.length=1:=by have:=HOK.out.2.1;simp [cntB,cntK] at this;exact this
     obtain ⟨z,rfl⟩:∃z,fns= [z]:=by
      match fns,hl1 with
      | [z],_=>exact ⟨z,rfl⟩
     have hz:=HOK.out.2.2.2.1 z (List.mem_singleton.2 rfl)
     obtain ⟨ub,ucc,hu1,_,_,hub⟩:=HUI.out.form (by simp)
     injection hu1 with i1 i2 i3
     subst i1 i3
     have x0:wr.cell? ⟨ub,0,none⟩=some (.int .i64 z):=HUI.out.cell 0 (by simp)
     have hbT:ub<T:=HUB.out ub rfl
     clear hl1
     have u1:=Cx.wrap_small (z+(fd.size:Int)) (by omega) (by omega)
     obtain ⟨u,hu⟩:∃u,z+(fd.size:Int)=u:=⟨_,rfl⟩
     rw [hu] at u1
     have HU:Hid (z+(fd.size:Int)=u):=hu
     have hrw:IntKind.i64.wrap (z+(fd.size:Int))=u:=by rw [hu];exact u1
     have HDr:Hid (DT W3 wr.drew B T S C e'):=HD.out.below (Below.refl _ _).drew
     have hcd:=Cx.zf6 HDr.out.cr u
     have y1:wr.drew.cell? ⟨gb,k*3+1,none⟩=some (.slice (some ⟨ub,0,none⟩) 1 uc):=y1
     have y2:wr.drew.cell? ⟨gb,k*3+2,none⟩=some (.string fd):=y2
     have x0:wr.drew.cell? ⟨ub,0,none⟩=some (.int .i64 z):=x0
     clear hu u1
     have hgC:gb≠C:=by have:=HST.out;omega
     have hbC:ub≠C:=by have:=HST.out;omega
     have hgS:gb≠S:=by have:=HST.out;omega
     have hbS:ub≠S:=by have:=HST.out;omega
     by_cases ht:Cx.zcv e'.c u=0
     ·rw [ht] at hcd
      have hput:∀X,Sx.Ref X B S e'.s→Calls Tryz.prog 68 #[.pointer (some ⟨S,0,none⟩),.int .i64 z,.string fd] X fun ex w'=>ex= .returned (.int .i64 (Sx.putF e'.s z fd))∧Sx.RTurned X w' B S (Sx.putS e'.s z fd):=fun X hX=>Sx.zt2 hX z fd (by omega)
      have HSP:Hid (stpE e' (3,[z],fd)=(Sx.putF e'.s z fd,{e' with c:=Cx.zba e'.c u,s:=Sx.putS e'.s z fd})):=by
       show _=_
       simp only [stpE,first,List.getElem?_cons_zero,Option.getD_some,HU.out]
       simp [ht]
      have HI2:Hid (EInv {e' with c:=Cx.zba e'.c u,s:=Sx.putS e'.s z fd}):=by
       have:=HI.out.stp HGD.out
       rw [HSP.out] at this
       exact this
      have HSM2:Hid (({e' with c:=Cx.zba e'.c u,s:=Sx.putS e'.s z fd}:En).d=e.d∧({e' with c:=Cx.zba e'.c u,s:=Sx.putS e'.s z fd}:En).m=e.m∧({e' with c:=Cx.zba e'.c u,s:=Sx.putS e'.s z fd}:En).ls=e.ls∧({e' with c:=Cx.zba e'.c u,s:=Sx.putS e'.s z fd}:En).cm=e.cm∧e.t≤({e' with c:=Cx.zba e'.c u,s:=Sx.putS e'.s z fd}:En).t):=HSM.out
      generalize hsc:Cx.zba e'.c u=sc at *
      generalize hsp:Sx.putS e'.s z fd=sp at *
      generalize hpf:Sx.putF e'.s z fd=pf at *
      clear ht hsc hsp hpf
      go_upto_region 46 with fail
      go_region_held3 (fun X=>X.cell? ⟨gb,k*3+1,none⟩=some (.slice (some ⟨ub,0,none⟩) 1 uc)∧X.cell? ⟨ub,0,none⟩=some (.int .i64 z)∧X.cell? ⟨gb,k*3+2,none⟩=some (.string fd)) (go_keep) (first | (go_at_call 67;refine hcd.mono ?_;rintro ex w4 ⟨rfl,ht4⟩;have z1:=ht4.2.cell (p:=⟨gb,k*3+1,none⟩) y1 hgC;have z2:=ht4.2.cell (p:=⟨ub,0,none⟩) x0 hbC;have z3:=ht4.2.cell (p:=⟨gb,k*3+2,none⟩) y2 hgC))
      have hs4:Sx.Ref w4 B S e'.s:=HDr.out.st.off ht4.2 HDr.out.ne.2.2
      have hp4:=hput w4.drew (hs4.below (Below.refl _ _).drew)
      have HT4:Hid (TBox w4 T e'.t):=HDr.out.tb.off ht4.2 HDr.out.ne.2.1
      have HC4:Hid (Cx.Obj w4 B C sc):=ht4.1
      have HO4:Hid (Off (fun j=>j=T∨j=S∨j=C) W3 w4):=HDr.out.off.trans (ht4.2.mono fun j _ hj=> .inr (.inr hj))
      have HNE:Hid (T≠S∧T≠C∧S≠C):=HDr.out.ne
      clear hput hcd ht4 HDr HD y0 y1 y2 x0 hs4 WW
      go_upto_region 48 with fail
      go_region_held3 (fun X=>X.cell? ⟨gb,k*3+1,none⟩=some (.slice (some ⟨ub,0,none⟩) 1 uc)∧X.cell? ⟨ub,0,none⟩=some (.int .i64 z)∧X.cell? ⟨gb,k*3+2,none⟩=some (.string fd)) (go_keep) (first | (go_at_call 68;refine hp4.mono ?_;rintro ex w5 ⟨rfl,ht5⟩;have u1:=ht5.2.cell (p:=⟨gb,k*3+1,none⟩) z1 hgS;have u2:=ht5.2.cell (p:=⟨ub,0,none⟩) z2 hbS;have u3:=ht5.2.cell (p:=⟨gb,k*3+2,none⟩) z3 hgS))
      have HD2:Hid (DT W3 w5 B T S C {e' with c:=sc,s:=sp}):=⟨HT4.out.off ((Off.refl _ w4).drew.trans ht5.2) HNE.out.1,ht5.1,HC4.out.off ((Off.refl _ w4).drew.trans ht5.2) (fun e=>HNE.out.2.2 e.symm),HO4.out.trans (((Off.refl _ w4).drew.trans ht5.2).mono fun j _ hj=> .inr (.inl hj)),HNE.out⟩
      clear hp4 ht5 u1 u2 u3 z1 z2 z3
      by_cases hp:pf=0
      ·subst hp
       have HN2:Hid (runF fs e=runF (fs.drop (k+1)) {e' with c:=sc,s:=sp}):=by show _=_;rw [HRN.out,zff (by rw [HSP.out]),HSP.out]
       clear HSP HRN HI HSM HGD HOK
       go_wp2_with fail
       go_roundg (m-(k+1))
       case measure=>have:=HK.out;omega
       case rel=>exact ⟨k+1,{e' with c:=sc,s:=sp},by have:=HK.out;omega,rfl,rfl,by go_num,HN2,HI2,HSM2,HD2⟩
      ·have HNZ:Hid (pf≠0):=hp
       have WW:=HD2.out.off
       have HCM:Hid (come e n fs=(pf,e)):=by
        show _=_
        unfold come
        rw [if_neg (by rw [HMN.out];decide),HRN.out,zei (by rw [HSP.out];exact HNZ.out),HSP.out,if_pos HNZ.out]
       have hcf2:cf=pf:=by rw [←HCF.out,HCM.out]
       subst hcf2
       go_wp2_with fail
       go_ret
       refine ⟨rfl,?_⟩
       rw [HCM.out]
       exact DTurn.below HO.out (HBW.out.trans (WW.below (fun j hj=>by have:=HTW.out;have:=HST.out;have:=HB2.out.size;rcases hj with hj | hj | hj<;>omega) HBW.out.size))
     ·have HNZ:Hid (Cx.zcv e'.c u≠0):=ht
      have HSP:Hid (stpE e' (3,[z],fd)=(Cx.zcv e'.c u,e')):=by
       show _=_
       simp only [stpE,first,List.getElem?_cons_zero,Option.getD_some,HU.out]
       simp [ht]
      generalize hpf:Cx.zcv e'.c u=pf at *
      have HCM:Hid (come e n fs=(pf,e)):=by
       show _=_
       unfold come
       rw [if_neg (by rw [HMN.out];decide),HRN.out,zei (by rw [HSP.out];exact HNZ.out),HSP.out,if_pos HNZ.out]
      have hcf2:cf=pf:=by rw [←HCF.out,HCM.out]
      subst hcf2
      have hne0:=HNZ.out
      clear ht hpf HNZ
      go_upto_region 46 with fail
      go_region_held3 (fun X=>X.cell? ⟨gb,k*3+1,none⟩=some (.slice (some ⟨ub,0,none⟩) 1 uc)∧X.cell? ⟨ub,0,none⟩=some (.int .i64 z)∧X.cell? ⟨gb,k*3+2,none⟩=some (.string fd)) (go_keep) (first | (go_at_call 67;refine hcd.mono ?_;rintro ex w4 ⟨rfl,ht4⟩;have z1:=ht4.2.cell (p:=⟨gb,k*3+1,none⟩) y1 hgC;have z2:=ht4.2.cell (p:=⟨ub,0,none⟩) x0 hbC;have z3:=ht4.2.cell (p:=⟨gb,k*3+2,none⟩) y2 hgC))
      have WW:Off (fun j=>j=T∨j=S∨j=C) W3 w4:=HDr.out.off.trans (ht4.2.mono fun j _ hj=> .inr (.inr hj))
      go_wp2_with fail
      go_ret
      refine ⟨rfl,?_⟩
      rw [HCM.out]
      exact DTurn.below HO.out (HBW.out.trans (WW.below (fun j hj=>by have:=HTW.out;have:=HST.out;have:=HB2.out.size;rcases hj with hj | hj | hj<;>omega) HBW.out.size))
   ·have k2:(fk==2)=false:=by simpa using f2
    have k4:(fk==4)=false:=by simpa using f4
    have k3:(fk==3)=false:=by simpa using f3
    have HSP:Hid (stpE e' (fk,fns,fd)=(3,e')):=by show _=_;simp [stpE,f2,f3,f4]
    have HNZ:Hid ((3:Int)≠0):=by show (3:Int)≠0;decide
    have HCM:Hid (come e n fs=(3,e)):=by
     show _=_
     unfold come
     rw [if_neg (by rw [HMN.out];decide),HRN.out,zei (by rw [HSP.out];exact HNZ.out),HSP.out,if_pos HNZ.out]
    have hcf2:cf=3:=by rw [←HCF.out,HCM.out]
    subst hcf2
    clear f2 f3 f4
    go_wp2_with fail
    go_ret
    refine ⟨rfl,?_⟩
    rw [HCM.out]
    exact DTurn.below HO.out (HBW.out.trans (WW.below (fun j hj=>by have:=HTW.out;have:=HST.out;have:=HB2.out.size;rcases hj with hj | hj | hj<;>omega) HBW.out.size))
  ·have hrun:runF fs e=(0,e'):=by
    rw [HR2.out,List.drop_eq_nil_of_le (by have:=HM.out;have:=HK.out;omega)]
    rfl
   as_aux_lemma=>
    have hBr:Below w.heap.size w wr:=HBW.out.trans (WW.below (fun j hj=>by have:=HTW.out;have:=HST.out;have:=HB2.out.size;rcases hj with hj | hj | hj<;>omega) HBW.out.size)
    have hEr:=HO.out.below hBr
    have d64:=hEr.cl 64 (by omega)
    rw [zjq,HVC.out] at d64
    have hwi:=zpj _ e.cm n wr (HR.out.below hBr) hEr.inv.cm HMY.out
    have hebr:eb<wr.heap.size:=hEr.lt
    have HER:Hid (DO wr B eb vm vc sb cb us md e):=hEr
    have HBR:Hid (Below w.heap.size w wr):=hBr
    clear hEr hBr
    by_cases hfu:12<(addL e.cm n).length
    ·have HCM:Hid (come e n fs=(4,e)):=by
      show _=_
      unfold come
      rw [if_neg (by rw [HMN.out];decide),hrun,if_neg (by simp),if_pos hfu]
     have hcf2:cf=4:=by rw [←HCF.out,HCM.out]
     subst hcf2
     have hfz:(12:Int)<((addL e.cm n).length:Int):=by omega
     clear hrun
     generalize addL e.cm n=cn at *
     generalize e.cm.length=nc at *
     go_wp2_with (go_at_call 69;refine hwi.mono ?_;rintro ex w5 ⟨v5,rfl,ho5,hb5⟩;obtain ⟨a5,c5,hv5⟩:=za3 ho5;subst hv5)
     go_ret
     refine ⟨rfl,?_⟩
     rw [HCM.out]
     exact DTurn.below HO.out (HBR.out.trans (hb5.mono HBR.out.size))
    ·have HCM:Hid (come e n fs=(0,{e' with cm:=addL e.cm n})):=by
      show _=_
      unfold come
      rw [if_neg (by rw [HMN.out];decide),hrun,if_neg (by simp),if_neg hfu]
     have hcf2:cf=0:=by rw [←HCF.out,HCM.out]
     subst hcf2
     have hfz:¬(12:Int)<((addL e.cm n).length:Int):=by omega
     have HIV:Hid (EInv {e' with cm:=addL e.cm n}):=⟨HI.out.d60,HI.out.t1,HI.out.l0,HI.out.l1,HI.out.m1,HI.out.k0,HI.out.k1,HI.out.ls,HI.out.s,HI.out.c,zms HO.out.inv.cm HMY.out (by omega),HI.out.ll⟩
     clear hrun hfu
     generalize hcn:addL e.cm n=cn at *
     generalize hnc:e.cm.length=nc at d64 hwi HVC
     go_upto_region 54 with (go_at_call 69;refine hwi.mono ?_;rintro ex w5 ⟨v5,rfl,ho5,hb5⟩;obtain ⟨a5,c5,hv5⟩:=za3 ho5;subst hv5)
     have hE5:=HER.out.below hb5
     have hD5:=HD.out.below hb5
     have HB5:Hid (Below w.heap.size w w5):=HBR.out.trans (hb5.mono HBR.out.size)
     have hth6:=hE5.there_told
     have hrg6:=hD5.tb.range
     obtain ⟨W6,HW6⟩:∃W6,Hid (W6=w5.setCells eb 1 (row 60 (zen e'.t))):=⟨_,rfl⟩
     have HT6:=zot e'.t
     go_upto_region 55 with (first | (refine za7 (n:=60) (f:=zen e'.t) (ty:=61) rfl (.tmp 10) rfl T 0 rfl hrg6 (by kernel_rfl) (by kernel_rfl) ?_) | (refine zay (n:=60) (f:=zen e'.t) (ty:=61) rfl (.tmp 241) (.tmp 239) rfl eb 1 rfl rfl hth6 (by kernel_rfl) HT6 HW6 ?_))
     obtain ⟨e61,e63,e64,f61,f63,f64⟩:=zk0 hE5 HW6.out
     have HEND:=fun W9 (h9:W9=((W6.setCell ⟨eb,61,none⟩ (.int .i64 e'.l)).setCell ⟨eb,63,none⟩ (.int .i64 e'.k)).setCell ⟨eb,64,none⟩ (.slice a5 cn.length c5))=>zIb hE5 HW6.out (e':=e') (cm:=cn) HSM.out.1 h9
     have HV5:Hid (w5.ownsRow wr.heap.size 129 2 (.slice a5 cn.length c5) cn.length (flat cn)):=ho5
     have HD5:Hid (DT W3 w5 B T S C e'):=hD5
     have HE5:Hid (DO w5 B eb vm vc sb cb us md e):=hE5
     have HB5w:Hid (Below wr.heap.size wr w5):=hb5
     clear hth6 hrg6 HW6 HT6 hE5 hD5 ho5 hb5 hwi d64
     go_upto_region 58 with fail
     have hE9:=HEND _ rfl
     clear HEND e61 e63 e64 f61 f63 f64
     generalize ((W6.setCell ⟨eb,61,none⟩ (.int .i64 e'.l)).setCell ⟨eb,63,none⟩ (.int .i64 e'.k)).setCell ⟨eb,64,none⟩ (.slice a5 cn.length c5)=W9 at hE9 ⊢
     obtain ⟨hc9,hf9,ho9⟩:=hE9
     have HC9:Hid (∀i,i<67→W9.cell? ⟨eb,i,none⟩=some (zdv {e' with cm:=cn} vm (.slice a5 cn.length c5) sb cb i)):=hc9
     have HF9:Hid (∀i,W9.frozen? ⟨eb,i,none⟩=false):=hf9
     have HO9:Hid (Off (fun j=>j=eb) w5 W9):=ho9
     have g65:W9.drew.cell? ⟨eb,65,none⟩=some (.pointer (some ⟨sb,0,none⟩)):=hc9 65 (by omega)
     have hSeb:¬S=eb:=by have:=HST.out;have:=HTW.out;have:=HB2.out.size;omega
     have hCeb:¬C=eb:=by have:=HST.out;have:=HTW.out;have:=HB2.out.size;omega
     have hS9:Sx.Ref W9.drew B S e'.s:=(HD5.out.st.off ho9 hSeb).below (Below.refl _ _).drew
     have hr9:=zke hS9
     have HF10:Hid (∀i,i<61→W9.drew.frozen? ⟨sb,i,none⟩=false):=(HE5.out.st.off ho9 (fun e1=>HE5.out.ap.1 e1.symm)).fz
     have hth9:W9.drew.there sb 0 61:=zw2 ((HE5.out.st.off ho9 (fun e1=>HE5.out.ap.1 e1.symm)).below (Below.refl _ _).drew)
     have HT9:=zni e'.s
     obtain ⟨W10,HW10⟩:∃W10,Hid (W10=W9.drew.setCells sb 0 (row 61 (zfc e'.s))):=⟨_,rfl⟩
     have HO10:Hid (Off (fun j=>j=sb) W9 W10):=by rw [HW10.out];exact (Off.refl _ W9).drew.trans (zcd sb _ _ _)
     have hesb:¬eb=sb:=HE5.out.ap.1
     have hSsb:¬S=sb:=by have:=HST.out;have:=HTW.out;have:=HB2.out.size;omega
     have HR10:Hid (Sx.Ref W10 B sb e'.s):=by
      rw [HW10.out]
      exact zib HIV.out.s (World.rangeAt_setCells_same _ _ _ _ (by rw [zac];exact hth9)) (fun i hi=>by rw [World.frozen?_setCells];exact HF10.out i hi) HE5.out.st.hs
     clear hc9 hf9 hS9 ho9
     refine wp_region_noPanic ?_
     refine wp_region_held_drew (S:=fun X=>X.cell? ⟨eb,65,none⟩=some (.pointer (some ⟨sb,0,none⟩))∧X.rangeAt S 0 (row 61 (zfc e'.s))) (by kernel_rfl) ⟨g65,hr9⟩ (fun hHeld=> ?_)
     refine wpAnyH_take (i:=0) (oi:= ⟨some 254,.move (.tmp 0),42,"more.go:349",#[],none⟩) (v:=(.pointer (some ⟨eb,0,none⟩))) rfl (by kernel_rfl) (by kernel_rfl) (by kernel_rfl) (fun _ _ _ h=>h) (Or.inl ⟨by rfl,?_⟩) (by assumption) ?_
     ·intro wx hSw
      obtain ⟨s0,s1⟩:=hSw
      clear s1
      go_simp
     try simp only [Act.put,qzA,qzB,qzC]
     refine wpAnyH_take (i:=1) (oi:= ⟨some 255,.nilCheck (.tmp 254),0,"more.go:349",#[⟨0,.data⟩],none⟩) (v:=(.pointer (some ⟨eb,0,none⟩))) rfl (by kernel_rfl) (by kernel_rfl) (by kernel_rfl) (fun _ _ _ h=>h) (Or.inl ⟨by rfl,?_⟩) (by assumption) ?_
     ·intro wx hSw
      obtain ⟨s0,s1⟩:=hSw
      clear s1
      go_simp
     try simp only [Act.put,qzA,qzB,qzC]
     refine wpAnyH_take (i:=2) (oi:= ⟨some 256,.fieldAddr 89 (.tmp 255) 6,0,"more.go:349",#[⟨1,.data⟩],none⟩) (v:=(.pointer (some ⟨eb,65,none⟩))) rfl (by kernel_rfl) (by kernel_rfl) (by kernel_rfl) (fun _ _ _ h=>h) (Or.inl ⟨by rfl,?_⟩) (by assumption) ?_
     ·intro wx hSw
      obtain ⟨s0,s1⟩:=hSw
      clear s1
      go_simp
     try simp only [Act.put,qzA,qzB,qzC]
     refine wpAnyH_take (i:=3) (oi:= ⟨some 257,.load 86 (.tmp 256),86,"more.go:349",#[⟨2,.data⟩],none⟩) (v:=(.pointer (some ⟨sb,0,none⟩))) rfl (by kernel_rfl) (by kernel_rfl) (by kernel_rfl) (fun _ _ _ h=>h) (Or.inl ⟨by rfl,?_⟩) (by assumption) ?_
     ·intro wx hSw
      obtain ⟨s0,s1⟩:=hSw
      clear s1
      go_simp
     try simp only [Act.put,qzA,qzB,qzC]
     refine wpAnyH_ready (rs:= [4]) (by kernel_rfl) (by simp) ?_
     refine AllReadyH.cons (o:= ⟨some 258,.load 127 (.tmp 13),127,"more.go:349",#[],none⟩) rfl (fun K hK=> ?_) AllReadyH.nil
     rw [if_pos (by rfl)]
     refine zjd (n:=61) (f:=zfc e'.s) (ty:=127) (.tmp 13) rfl S 0 rfl hHeld.2 (by kernel_rfl) (by kernel_rfl) ?_
     refine hK.out _ _ hHeld (fun hHeld=> ?_)
     clear hK K
     try simp only [Act.put,qzA,qzB,qzC]
     refine wpAnyH_take (i:=5) (oi:= ⟨some 259,.nilCheck (.tmp 257),0,"more.go:349",#[⟨3,.data⟩,⟨0,.phase⟩,⟨1,.phase⟩,⟨2,.phase⟩,⟨3,.phase⟩,⟨4,.phase⟩],none⟩) (v:=(.pointer (some ⟨sb,0,none⟩))) rfl (by kernel_rfl) (by kernel_rfl) (by kernel_rfl) (fun _ _ _ h=>h) (Or.inl ⟨by rfl,?_⟩) (by assumption) ?_
     ·intro wx hSw
      obtain ⟨s0,s1⟩:=hSw
      clear s1
      go_simp
     try simp only [Act.put,qzA,qzB,qzC]
     refine wpAnyH_ready (rs:= [6]) (by kernel_rfl) (by simp) ?_
     refine AllReadyH.cons (o:= ⟨none,.store 127 (.tmp 259) (.tmp 258),0,"more.go:349",#[⟨5,.data⟩,⟨4,.data⟩,⟨0,.phase⟩,⟨1,.phase⟩,⟨2,.phase⟩,⟨3,.phase⟩,⟨4,.phase⟩],none⟩) rfl (fun K hK=> ?_) AllReadyH.nil
     rw [if_pos (by rfl)]
     refine zic (n:=61) (f:=zfc e'.s) (ty:=127) (.tmp 259) (.tmp 258) rfl sb 0 rfl rfl hth9 (by kernel_rfl) HT9 HW10 ?_
     refine hK.out _ _ ⟨HO10.out.cell (p:=⟨eb,65,none⟩) g65 hesb,zos (w:=W9) hr9 HO10.out hSsb⟩ (fun hHeld=> ?_)
     clear hK K hHeld
     try simp only [Act.put,qzA,qzB,qzC]
     refine wpAnyH_done (by kernel_rfl) (NoPanic.normal ?_) _
     clear g65 hr9 hth9 HT9 HW10
     go_upto_region 59 with fail
     have g66:W10.drew.cell? ⟨eb,66,none⟩=some (.pointer (some ⟨cb,0,none⟩)):=HO10.out.cell (HC9.out 66 (by omega)) hesb
     have hCsb:¬C=sb:=by have:=HST.out;have:=HTW.out;have:=HB2.out.size;omega
     have hecb:¬eb=cb:=HE5.out.ap.2.1
     have hCcb:¬C=cb:=by have:=HST.out;have:=HTW.out;have:=HB2.out.size;omega
     have hC10:Cx.Obj W10.drew B C e'.c:=((HD5.out.cr.off HO9.out hCeb).off HO10.out hCsb).below (Below.refl _ _).drew
     have hr10:=zdn hC10
     have hcb10:Cx.Obj W10.drew B cb e.c:=((HE5.out.cr.off HO9.out (fun e1=>HE5.out.ap.2.1 e1.symm)).off HO10.out (fun e1=>HE5.out.ap.2.2 e1.symm)).below (Below.refl _ _).drew
     have hth10:=zty hcb10
     have HT10:=zdt e'.c
     obtain ⟨W11,HW11⟩:∃W11,Hid (W11=W10.drew.setCells cb 0 (row 4 (zaz e'.c))):=⟨_,rfl⟩
     have HO11:Hid (Off (fun j=>j=cb) W10 W11):=by rw [HW11.out];exact (Off.refl _ W10).drew.trans (zcd cb _ _ _)
     have HR11:Hid (Cx.Obj W11 B cb e'.c):=by
      have hr:W11.rangeAt cb 0 (row 4 (zaz e'.c)):=by rw [HW11.out];exact World.rangeAt_setCells_same _ _ _ _ (by rw [zac];exact hth10)
      have g:∀i,i<4→W11.cell? ⟨cb,i,none⟩=some (zaz e'.c i):=fun i hi=>by have:=zbp hr hi;rwa [Nat.zero_add] at this
      have ff:∀i,i<4→W11.frozen? ⟨cb,i,none⟩=false:=fun i hi=>by
       rw [HW11.out,World.frozen?_setCells]
       have:=(hth10 i hi).2
       rwa [Nat.zero_add] at this
      exact ⟨HIV.out.c,⟨g 0 (by omega),g 1 (by omega),g 2 (by omega),g 3 (by omega),ff 1 (by omega),ff 2 (by omega),ff 3 (by omega),ff 0 (by omega)⟩,HE5.out.cr.hs⟩
     clear hC10 hcb10
     refine wp_region_noPanic ?_
     refine wp_region_held_drew (S:=fun X=>X.cell? ⟨eb,66,none⟩=some (.pointer (some ⟨cb,0,none⟩))∧X.rangeAt C 0 (row 4 (zaz e'.c))) (by kernel_rfl) ⟨g66,hr10⟩ (fun hHeld=> ?_)
     refine wpAnyH_take (i:=0) (oi:= ⟨some 260,.move (.tmp 0),42,"more.go:350",#[],none⟩) (v:=(.pointer (some ⟨eb,0,none⟩))) rfl (by kernel_rfl) (by kernel_rfl) (by kernel_rfl) (fun _ _ _ h=>h) (Or.inl ⟨by rfl,?_⟩) (by assumption) ?_
     ·intro wx hSw
      obtain ⟨s0,s1⟩:=hSw
      clear s1
      go_simp
     try simp only [Act.put,qzA,qzB,qzC]
     refine wpAnyH_take (i:=1) (oi:= ⟨some 261,.nilCheck (.tmp 260),0,"more.go:350",#[⟨0,.data⟩],none⟩) (v:=(.pointer (some ⟨eb,0,none⟩))) rfl (by kernel_rfl) (by kernel_rfl) (by kernel_rfl) (fun _ _ _ h=>h) (Or.inl ⟨by rfl,?_⟩) (by assumption) ?_
     ·intro wx hSw
      obtain ⟨s0,s1⟩:=hSw
      clear s1
      go_simp
     try simp only [Act.put,qzA,qzB,qzC]
     refine wpAnyH_take (i:=2) (oi:= ⟨some 262,.fieldAddr 89 (.tmp 261) 7,0,"more.go:350",#[⟨1,.data⟩],none⟩) (v:=(.pointer (some ⟨eb,66,none⟩))) rfl (by kernel_rfl) (by kernel_rfl) (by kernel_rfl) (fun _ _ _ h=>h) (Or.inl ⟨by rfl,?_⟩) (by assumption) ?_
     ·intro wx hSw
      obtain ⟨s0,s1⟩:=hSw
      clear s1
      go_simp
     try simp only [Act.put,qzA,qzB,qzC]
     refine wpAnyH_take (i:=3) (oi:= ⟨some 263,.load 87 (.tmp 262),87,"more.go:350",#[⟨2,.data⟩],none⟩) (v:=(.pointer (some ⟨cb,0,none⟩))) rfl (by kernel_rfl) (by kernel_rfl) (by kernel_rfl) (fun _ _ _ h=>h) (Or.inl ⟨by rfl,?_⟩) (by assumption) ?_
     ·intro wx hSw
      obtain ⟨s0,s1⟩:=hSw
      clear s1
      go_simp
     try simp only [Act.put,qzA,qzB,qzC]
     refine wpAnyH_ready (rs:= [4]) (by kernel_rfl) (by simp) ?_
     refine AllReadyH.cons (o:= ⟨some 264,.load 124 (.tmp 14),124,"more.go:350",#[],none⟩) rfl (fun K hK=> ?_) AllReadyH.nil
     rw [if_pos (by rfl)]
     refine zjd (n:=4) (f:=zaz e'.c) (ty:=124) (.tmp 14) rfl C 0 rfl hHeld.2 (by kernel_rfl) (by kernel_rfl) ?_
     refine hK.out _ _ hHeld (fun hHeld=> ?_)
     clear hK K
     try simp only [Act.put,qzA,qzB,qzC]
     refine wpAnyH_take (i:=5) (oi:= ⟨some 265,.nilCheck (.tmp 263),0,"more.go:350",#[⟨3,.data⟩,⟨0,.phase⟩,⟨1,.phase⟩,⟨2,.phase⟩,⟨3,.phase⟩,⟨4,.phase⟩],none⟩) (v:=(.pointer (some ⟨cb,0,none⟩))) rfl (by kernel_rfl) (by kernel_rfl) (by kernel_rfl) (fun _ _ _ h=>h) (Or.inl ⟨by rfl,?_⟩) (by assumption) ?_
     ·intro wx hSw
      obtain ⟨s0,s1⟩:=hSw
      clear s1
      go_simp
     try simp only [Act.put,qzA,qzB,qzC]
     refine wpAnyH_ready (rs:= [6]) (by kernel_rfl) (by simp) ?_
     refine AllReadyH.cons (o:= ⟨none,.store 124 (.tmp 265) (.tmp 264),0,"more.go:350",#[⟨5,.data⟩,⟨4,.data⟩,⟨0,.phase⟩,⟨1,.phase⟩,⟨2,.phase⟩,⟨3,.phase⟩,⟨4,.phase⟩],none⟩) rfl (fun K hK=> ?_) AllReadyH.nil
     rw [if_pos (by rfl)]
     refine zic (n:=4) (f:=zaz e'.c) (ty:=124) (.tmp 265) (.tmp 264) rfl cb 0 rfl rfl hth10 (by kernel_rfl) HT10 HW11 ?_
     refine hK.out _ _ ⟨HO11.out.cell (p:=⟨eb,66,none⟩) g66 hecb,zos (w:=W10) hr10 HO11.out hCcb⟩ (fun hHeld=> ?_)
     clear hK K hHeld
     try simp only [Act.put,qzA,qzB,qzC]
     refine wpAnyH_done (by kernel_rfl) (NoPanic.normal ?_) _
     go_wp2_with fail
     go_ret
     refine ⟨rfl,?_⟩
     rw [HCM.out]
     obtain ⟨hD,hOf⟩:=zG2 (e':=e') (cm:=cn) HE5.out (HO.out.mds.same (e2:= {e' with cm:=cn}) HSM.out.1 HSM.out.2.1 HSM.out.2.2.1) HIV.out HSM.out.2.1 HC9.out HF9.out HO9.out HV5.out (Nat.le_trans HO.out.le HBR.out.size) (fun j hj=>(HER.out.own_lt hj).2) HR10.out HO10.out HR11.out HO11.out
     refine ⟨vm,_,us,md,hD,(Off.of_below HB5.out).trans (hOf.mono fun j _ hj=> ?_),fun j hj=> ?_⟩
     ·rcases hj with hj | hj | hj
      ·exact .inl hj
      ·exact .inr (.inl hj)
      ·exact .inr (.inr (.inl hj))
     ·rcases hj with hj | hj | hj | hj | hj | hj
      ·exact .inl (.inl hj)
      ·exact .inl (.inr (.inl hj))
      ·exact .inl (.inr (.inr (.inl hj)))
      ·exact .inl (.inr (.inr (.inr (.inl hj))))
      ·exact .inr (Nat.le_trans HBR.out.size (HV5.out.lt j hj).1)
      ·exact .inl (.inr (.inr (.inr (.inr (.inr hj)))))
theorem zjj {w:World} {B eb sb cb:Nat} {vm vc:Value} {us:List Value} {md:List (List Pc)} {e:En} (h:DO w B eb vm vc sb cb us md e) (b:ByteArray) (hl:b.size≤9223372036854775807) (hnx:zai e≤1073741823):Calls Tryz.prog 40 #[.pointer (some ⟨eb,0,none⟩),.string b] w fun ex w'=>ex= .returned (.int .i64 (zbf e b).1)∧DTurn w w' B eb vm vc sb cb us (zbf e b).2:=by
 by_cases h0:opF b (zai e)=0
 ·obtain ⟨h1,h2,n,fs,h3⟩:=zv0 h0
  have e1:zbf e b=come e n fs:=by
   unfold zbf
   rw [if_neg (by simpa using h0),h3]
  rw [e1]
  cases h4:memB e.cm n with
  | true=>
   have e2:come e n fs=(0,e):=by unfold come;rw [if_pos h4]
   rw [e2]
   exact (zF4 h b hnx h2 n fs h3 h4).mono fun ex w' ⟨a,c⟩=>⟨a,DTurn.below h c⟩
  | false=>exact zDh h b hnx h2 n fs h3 h4
 ·have e1:zbf e b=(opF b (zai e),e):=by
   unfold zbf
   rw [if_pos h0]
  rw [e1]
  exact (zEi h b hl hnx h0).mono fun ex w' ⟨a,c⟩=>⟨a,DTurn.below h c⟩
end Go.Proofs.YtdnehibcpkjafaaGreatDoor
