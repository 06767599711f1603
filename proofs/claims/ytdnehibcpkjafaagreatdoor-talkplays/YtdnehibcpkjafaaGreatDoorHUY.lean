/- What TalkPlays needs. -/
import Derived.Test.YtdnehibcpkjafaaGreatDoorHUE
set_option linter.unusedVariables false
set_option linter.unusedSimpArgs false
set_option maxRecDepth 100000
set_option maxHeartbeats 8000000
namespace Go.Proofs.YtdnehibcpkjafaaGreatDoor
open Go.RowKit Go.Lib Go.Sort
open Ar (zu7 Ints iat zli zm4 zy2)
theorem zwx (n:Int) (v u:Value) (w:World) (hV:(V.Forms w∧Cnts w)∧Handle w) (hn:Cx.winB n=false):Calls Tryz.prog 5 #[.int .i64 n,v,u] w fun e w'=>e= .returned (.bool true)∧Below w.heap.size w w':=by
 have HV:Hid ((V.Forms w∧Cnts w)∧Handle w):=hV
 have HN:=zEr n w hn
 have hor:n<1∨(¬n<1∧1000<n):=by
  have:¬(1≤n∧n≤1000):=of_decide_eq_false hn
  omega
 clear hn hV
 rcases hor with h1 | ⟨h1,h2⟩
 ·go_enter Tryz.func5,Tryz.ntmps5
  go_wp2_with (first | (go_at_call 6;refine HN.mono ?_;rintro e w1 ⟨rfl,hb1⟩;clear HN) | (go_at_call 14;refine (zha 1 1 _ (HV.out.2.below hb1)).mono ?_;rintro e w2 ⟨rfl,hb2⟩))
  go_ret
  exact ⟨rfl,hb1.trans (hb2.mono hb1.size)⟩
 ·go_enter Tryz.func5,Tryz.ntmps5
  go_wp2_with (first | (go_at_call 6;refine HN.mono ?_;rintro e w1 ⟨rfl,hb1⟩;clear HN) | (go_at_call 14;refine (zha 1 1 _ (HV.out.2.below hb1)).mono ?_;rintro e w2 ⟨rfl,hb2⟩))
  go_ret
  exact ⟨rfl,hb1.trans (hb2.mono hb1.size)⟩
theorem zui (n:Int) (ao:Option Addr) (len sc:Nat) (ta:Option Addr) (tl tc:Nat) (w:World) (hV:(V.Forms w∧Cnts w)∧Handle w) (hS:len=0∨∃b off,ao=some ⟨b,off,none⟩∧Ar.Steps w b off len) (htl:tl≤9223372036854775807) (hT:tl=0∨∃b off,ta=some ⟨b,off,none⟩∧zu7 w b off tl) (hn:Cx.winB n=true):Calls Tryz.prog 5 #[.int .i64 n,.slice ao len sc,.slice ta tl tc] w fun e w'=>e= .returned (.bool true)∧Below w.heap.size w w':=by
 have HV:Hid ((V.Forms w∧Cnts w)∧Handle w):=hV
 have HS:Hid (len=0∨∃b off,ao=some ⟨b,off,none⟩∧Ar.Steps w b off len):=hS
 have HTX:Hid (tl=0∨∃b off,ta=some ⟨b,off,none⟩∧zu7 w b off tl):=hT
 have HN:=zBw n w hn
 have HDN:Hid (∀X,Calls Tryz.prog 15 #[.int .i64 n] X fun e w'=>∃mb ea eb d,e= .returned (.pointer (some ⟨mb,0,none⟩))∧DTk w' X.heap.size mb ea eb d (newT n)∧Below X.heap.size X w'):=fun X=>zpo n X hn
 have HRN:Hid (Gd n 0 (newT n)):=Gd.new hn
 have hn1:1≤n∧n≤1000:=of_decide_eq_true hn
 obtain ⟨hn1,hn2⟩:=hn1
 clear hn hV hS hT
 go_enter Tryz.func5,Tryz.ntmps5
 go_wp2_with (first | (go_at_call 6;refine HN.mono ?_;rintro e w1 ⟨tb,rfl,ho1,hb1⟩;clear HN) | (go_at_call 14;refine (zq0 0 _).mono ?_;rintro e w2 ⟨rfl,hb2⟩) | (go_at_call 15;refine (HDN.out _).mono ?_;rintro e w3 ⟨mb,ea,eb,d0,rfl,ho3,hb3⟩))
 have HB0:Hid (Bo w w3 tb mb ea eb (fun _=>False) (newT n) (newT n)):=Bo.start ho1 hb1 hb2 ho3 hb3
 clear ho1 hb1 hb2 ho3 hb3 HDN hn1 hn2
 go_loopg [12] 80 (fun gk s12 wr=>∃(k:Nat) (s:Tt),gk+k=80∧s12= .int .i64 (k:Int)∧Bo w wr tb mb ea eb (fun _=>False) s s∧Hid (Gd n k s))
 case atStart=>exact ⟨0,newT n,rfl,rfl,HB0.out,HRN⟩
 case round=>
  clear HB0 HRN
  obtain ⟨k,s,hk,rfl,hE,HR⟩:=hrel
  have HK:Hid (gk+k=80):=hk
  clear hk
  by_cases g1:(k:Int)<(len:Int)
  ·by_cases g2:(k:Int)<80
   ·obtain ⟨b,off,rfl,hSt⟩:∃b off,ao=some ⟨b,off,none⟩∧Ar.Steps w b off len:=by
     rcases HS.out with e | e
     ·omega
     ·exact e
    have hlen:len≤9223372036854775807:=hSt.2.1
    obtain ⟨ar,cr,zs,hcell,hI⟩:=zy2 hSt (Below.refl _ _) (k:=k) (by omega)
    have hzl:zs.length≤9223372036854775807:=hI.1
    have HC:Hid (w.cell? ⟨b,off+k,none⟩=some (.slice ar zs.length cr)):=hcell
    have hbw:b<w.heap.size:=hSt.1
    have HI:Hid (Ints w ar zs):=hI
    have hP0:=Pv.new hE
    clear hSt hcell hI hE
    go_wp2_with fail
    generalize wr.heap.size=vb at hP0 ⊢
    generalize wr.alloc (.cells #[.int .i64 0,.int .i64 0,.int .i64 0] 34)=W1 at hP0 ⊢
    go_loopg [14] 3 (fun gj s14 wr2=>∃(j:Nat) (ys:Nat→Int),gj+j=3∧s14= .int .i64 (j:Int)∧Pv w wr2 tb mb ea eb vb s s ys)
    case atStart=>exact ⟨0,_,rfl,rfl,hP0⟩
    case round=>
     clear hP0
     obtain ⟨j,ys,hj,rfl,hP⟩:=hrel
     have HJ:Hid (gk+j=3):=hj
     clear hj
     have rc:=(hP.bel.cell (p:=⟨b,off+k,none⟩) hbw).trans HC.out
     by_cases q1:(j:Int)<(zs.length:Int)∧(j:Int)<3
     ·obtain ⟨q1,q2⟩:=q1
      obtain ⟨rb,ro,rfl,hrb,hcj⟩:∃rb ro,ar=some ⟨rb,ro,none⟩∧rb<w.heap.size∧∀j,j<zs.length→w.cell? ⟨rb,ro+j,none⟩=some (.int .i64 (iat zs j)):=by
       rcases HI.out.2.2 with e | e
       ·rw [e] at q1;simp at q1;omega
       ·exact e
      have xj:=(hP.bel.cell (p:=⟨rb,ro+j,none⟩) hrb).trans (hcj j (by omega))
      generalize iat zs j=z at xj
      clear hcj
      have hP2:=hP.set (show j<3 by omega) z
      have vc:=hP.bv.c j (by omega)
      have vf:=hP.bv.f j (by omega)
      go_wp2_with fail
      go_roundg (3-(j+1))
      case measure=>have:=HJ.out;omega
      case rel=>exact ⟨j+1,_,by have:=HJ.out;omega,by go_num,hP2⟩
     ·go_upto_region 14 with fail
      go_cut [67] (fun s67 wx=>s67= .bool false∧wx=wr)
      case first=>
       by_cases q2:(j:Int)<(zs.length:Int)
       ·have q3:¬(j:Int)<3:=fun e=>q1 ⟨q2,e⟩
        clear q1
        go_wp2_with fail
        go_meet
        exact ⟨rfl,rfl⟩
       ·clear q1
        go_wp2_with fail
        go_meet
        exact ⟨rfl,rfl⟩
      case rest=>
       obtain ⟨rfl,rfl⟩:=hcut
       clear q1 rc
       go_upto_if 82 with fail
       go_cut [15] (fun s15 wx=>∃d:ByteArray,s15= .string d∧Hid (d.size≤140737488351232)∧wx=wc)
       case first=>
        by_cases t1:(k:Int)<(tl:Int)
        ·obtain ⟨xb,toff,rfl,hTx⟩:∃b off,ta=some ⟨b,off,none⟩∧zu7 w b off tl:=by
          rcases HTX.out with e | e
          ·omega
          ·exact e
         obtain ⟨d,hd,hds⟩:=hTx.2 k (by omega)
         have td:=(hP.bel.cell (p:=⟨xb,toff+k,none⟩) hTx.1).trans hd
         have HDS:Hid (d.size≤140737488351232):=hds
         clear hd hTx hds hP
         go_wp2_with fail
         go_meet
         exact ⟨d,rfl,HDS,rfl⟩
        ·clear hP
         go_wp2_with fail
         go_meet
         exact ⟨_,rfl,(show (ByteArray.mk #[]).size≤140737488351232 by decide),rfl⟩
       case rest=>
       obtain ⟨d,rfl,HD,rfl⟩:=hcut
       have v0:=hP.bv.c 0 (by decide)
       have v1:=hP.bv.c 1 (by decide)
       have v2:=hP.bv.c 2 (by decide)
       obtain ⟨y0,hy0⟩:∃y,ys 0=y:=⟨_,rfl⟩
       obtain ⟨y1,hy1⟩:∃y,ys 1=y:=⟨_,rfl⟩
       obtain ⟨y2,hy2⟩:∃y,ys 2=y:=⟨_,rfl⟩
       rw [hy0] at v0
       rw [hy1] at v1
       rw [hy2] at v2
       have HY1:Hid (ys 1=y1):=hy1
       have HY2:Hid (ys 2=y2):=hy2
       have HP:Hid (Pv w wc tb mb ea eb vb s s ys):=hP
       clear hy0 hy1 hy2 hP
       have hP:=HP
       clear HP
       go_upto_region 20 with fail
       go_cut [16] (fun s16 wx=>s16= .bool (Lk.endB y1)∧wx=wc)
       case first=>
        clear hP v0 v2
        by_cases e0:y1=0
        ·have HE:Hid (Lk.endB y1=true):=by show Lk.endB y1=true;simp [Lk.endB,e0]
         have b0:(y1==0)=true:=by simp [e0]
         clear e0
         go_wp2_with fail
         go_meet
         exact ⟨by rw [HE.out],rfl⟩
        ·have b0:(y1==0)=false:=by simp [e0]
         have HE:Hid (Lk.endB y1=(y1==1)):=by show Lk.endB y1=(y1==1);simp [Lk.endB,e0];rfl
         clear e0
         go_wp2_with fail
         go_meet
         exact ⟨by rw [HE.out],rfl⟩
       case rest=>
       obtain ⟨rfl,rfl⟩:=hcut
       obtain ⟨who,hwho⟩:∃who,Lk.endB y1=who:=⟨_,rfl⟩
       have HE:Hid (Lk.endB y1=who):=hwho
       rw [hwho]
       clear hwho
       have hk80:k<80:=by omega
       have hds:d.size≤140737488351232:=HD.out
       go_upto_block 4 with fail
       go_cut [10] (fun s10 wx=>s10= .bool true∧∃s:Tt,Bo w wx tb mb ea eb (fun _=>False) s s∧Gd n (k+1) s)
       case first=>
        by_cases s0:y0=0
        ·subst s0
         as_aux_lemma=>
          cases hw:Lk.endB y1 with
          | false=>
           have hf:zde s y1 d=1:=by unfold zde;rw [hw,if_neg (by decide)]
           have hs:zci s y1 d=s:=zwh (by rw [hf];decide)
           have c1:=zmc hP.out y1 d HD.out
           rw [hf,hs,zbh (by decide)] at c1
           rw [hw] at HE
           obtain rfl:=HE.out
           clear hf hs hw
           go_wp2_with (first | (go_at_call 7;refine c1.mono ?_;rintro e w11 ⟨rfl,hP11⟩;clear c1 v0 v1 v2) | (go_at_call 14;refine (zha 1 1 _ (HV.out.2.below hP11.bel)).mono ?_;rintro e w12 ⟨rfl,hb12⟩))
           go_meet
           exact ⟨rfl,_,(hP11.below hb12).bo.none,HR.out.more⟩
          | true=>
           rcases zav hw with hk | hk
           ·obtain rfl:y1=0:=hk
            have c1:=zse hP.out.drew d HD.out
            have c2:=fun X (h:Pv w X tb mb ea eb vb s (zci s 0 d) ys)=>zmc h 0 d HD.out
            have HRL:=HR.out.write 0 d
            rw [hw] at HE
            obtain rfl:=HE.out
            clear hw
            generalize zde s 0 d=ff at c1 c2
            generalize zci s 0 d=s2 at c1 c2 HRL
            have u1:wc.drew.cell? ⟨vb,1,none⟩=some (.int .i64 0):=(hP.out.drew.bv.c 1 (by decide)).trans (by rw [HY1.out])
            have up:wc.drew.cell? ⟨mb,0,none⟩=some (.pointer (some ⟨ea,0,none⟩)):=hP.out.drew.bo.c0
            go_upto_region 26 with fail
            go_cut [17] (fun s17 wx=>s17= .int .i64 ff∧Pv w wx tb mb ea eb vb s s2 ys)
            case first=>
             go_region_held3 (fun w'=>w'.cell? ⟨vb,1,none⟩=some (.int .i64 0)∧w'.cell? ⟨mb,0,none⟩=some (.pointer (some ⟨ea,0,none⟩))) (go_keep) (first | (go_at_call 16;refine c1.mono ?_;rintro e w11 ⟨rfl,hP11⟩;have q1:=(hP11.bv.c 1 (by decide)).trans (by rw [HY1.out]);have q3:=hP11.bo.c0))
             all_goals (try go_wp2_with fail)
             all_goals go_meet
             all_goals exact ⟨rfl,by first | exact hP11 | exact hP11.drew⟩
            case rest=>
             obtain ⟨rfl,hP11⟩:=hcut
             clear c1 u1 up v0 v1 v2
             have v1:=(hP11.bv.c 1 (by decide)).trans (by rw [HY1.out])
             have c2:=c2 _ hP11
             have c3:=zd9 ff
             generalize errV ff=er at c2 c3
             go_wp2_with (first | (go_at_call 7;refine c2.mono ?_;rintro e w12 ⟨rfl,hP12⟩;clear c2) | (go_at_call 14;refine (c3 _ (HV.out.2.below hP12.bel)).mono ?_;rintro e w13 ⟨rfl,hb13⟩))
             go_meet
             exact ⟨rfl,_,(hP12.below hb13).bo.none,HRL.more⟩
           ·obtain rfl:y1=1:=hk
            have c1:=zt0 hP.out.drew d HD.out
            have c2:=fun X (h:Pv w X tb mb ea eb vb s (zci s 1 d) ys)=>zmc h 1 d HD.out
            have HRL:=HR.out.write 1 d
            rw [hw] at HE
            obtain rfl:=HE.out
            clear hw
            generalize zde s 1 d=ff at c1 c2
            generalize zci s 1 d=s2 at c1 c2 HRL
            have u1:wc.drew.cell? ⟨vb,1,none⟩=some (.int .i64 1):=(hP.out.drew.bv.c 1 (by decide)).trans (by rw [HY1.out])
            have up:wc.drew.cell? ⟨mb,1,none⟩=some (.pointer (some ⟨eb,0,none⟩)):=hP.out.drew.bo.c1
            go_upto_region 26 with fail
            go_cut [17] (fun s17 wx=>s17= .int .i64 ff∧Pv w wx tb mb ea eb vb s s2 ys)
            case first=>
             go_region_held3 (fun w'=>w'.cell? ⟨vb,1,none⟩=some (.int .i64 1)∧w'.cell? ⟨mb,1,none⟩=some (.pointer (some ⟨eb,0,none⟩))) (go_keep) (first | (go_at_call 16;refine c1.mono ?_;rintro e w11 ⟨rfl,hP11⟩;have q1:=(hP11.bv.c 1 (by decide)).trans (by rw [HY1.out]);have q3:=hP11.bo.c1))
             all_goals (try go_wp2_with fail)
             all_goals go_meet
             all_goals exact ⟨rfl,by first | exact hP11 | exact hP11.drew⟩
            case rest=>
             obtain ⟨rfl,hP11⟩:=hcut
             clear c1 u1 up v0 v1 v2
             have v1:=(hP11.bv.c 1 (by decide)).trans (by rw [HY1.out])
             have c2:=c2 _ hP11
             have c3:=zd9 ff
             generalize errV ff=er at c2 c3
             go_wp2_with (first | (go_at_call 7;refine c2.mono ?_;rintro e w12 ⟨rfl,hP12⟩;clear c2) | (go_at_call 14;refine (c3 _ (HV.out.2.below hP12.bel)).mono ?_;rintro e w13 ⟨rfl,hb13⟩))
             go_meet
             exact ⟨rfl,_,(hP12.below hb13).bo.none,HRL.more⟩
        by_cases s1:y0=1
        ·subst s1
         as_aux_lemma=>
          cases hw:Lk.endB y1 with
          | false=>
           have hrn:=zq6 (s:=s) (w:=y1) (m:=y2) (.inl hw)
           have hbn:zfx s y1 y2= {data:= #[]}:=by unfold zfx;rw [hw,if_neg (by decide)];rfl
           have c1:=zqh hP.out y1 y2
           rw [hrn.1,hrn.2,hbn,zbh (by decide)] at c1
           rw [hw] at HE
           obtain rfl:=HE.out
           clear hrn hbn hw
           go_wp2_with (first | (go_at_call 10;refine c1.mono ?_;rintro e w11 ⟨rfl,hP11⟩;clear c1 v0 v1 v2) | (go_at_call 14;refine (zha 1 1 _ (HV.out.2.below hP11.bel)).mono ?_;rintro e w12 ⟨rfl,hb12⟩))
           go_meet
           exact ⟨by simp,_,(hP11.below hb12).bo.none,HR.out.more⟩
          | true=>
           rcases zav hw with hk | hk
           ·obtain rfl:y1=0:=hk
            have c1:=zuo hP.out.drew y2 (fun h0=>(HR.out.readF h0).1)
            have c2:=fun X (h:Pv w X tb mb ea eb vb s (zdg s 0 y2) ys)=>zqh h 0 y2
            have HRL:=HR.out.read 0 y2
            rw [hw] at HE
            obtain rfl:=HE.out
            clear hw
            generalize zfk s 0 y2=ff at c1 c2
            generalize zfx s 0 y2=bs at c1 c2
            generalize zdg s 0 y2=s2 at c1 c2 HRL
            have u1:wc.drew.cell? ⟨vb,1,none⟩=some (.int .i64 0):=(hP.out.drew.bv.c 1 (by decide)).trans (by rw [HY1.out])
            have u2:wc.drew.cell? ⟨vb,2,none⟩=some (.int .i64 y2):=(hP.out.drew.bv.c 2 (by decide)).trans (by rw [HY2.out])
            have up:wc.drew.cell? ⟨mb,0,none⟩=some (.pointer (some ⟨ea,0,none⟩)):=hP.out.drew.bo.c0
            go_upto_region 32 with fail
            go_cut [18,19] (fun s18 s19 wx=>s18= .int .i64 ff∧s19= .string bs∧Pv w wx tb mb ea eb vb s s2 ys)
            case first=>
             go_region_held3 (fun w'=>w'.cell? ⟨vb,1,none⟩=some (.int .i64 0)∧w'.cell? ⟨vb,2,none⟩=some (.int .i64 y2)∧w'.cell? ⟨mb,0,none⟩=some (.pointer (some ⟨ea,0,none⟩))) (go_keep) (first | (go_at_call 17;refine c1.mono ?_;rintro e w11 ⟨rfl,hP11⟩;have q1:=(hP11.bv.c 1 (by decide)).trans (by rw [HY1.out]);have q2:=(hP11.bv.c 2 (by decide)).trans (by rw [HY2.out]);have q3:=hP11.bo.c0))
             all_goals (try go_wp2_with fail)
             all_goals go_meet
             all_goals exact ⟨rfl,rfl,by first | exact hP11 | exact hP11.drew⟩
            case rest=>
             obtain ⟨rfl,rfl,hP11⟩:=hcut
             clear c1 u1 u2 up v0 v1 v2
             have v1:=(hP11.bv.c 1 (by decide)).trans (by rw [HY1.out])
             have v2:=(hP11.bv.c 2 (by decide)).trans (by rw [HY2.out])
             have c2:=c2 _ hP11
             have c3:=zd9 ff
             generalize errV ff=er at c2 c3
             go_wp2_with (first | (go_at_call 10;refine c2.mono ?_;rintro e w12 ⟨rfl,hP12⟩;clear c2) | (go_at_call 14;refine (c3 _ (HV.out.2.below hP12.bel)).mono ?_;rintro e w13 ⟨rfl,hb13⟩))
             go_meet
             exact ⟨by simp,_,(hP12.below hb13).bo.none,HRL.more⟩
           ·obtain rfl:y1=1:=hk
            have c1:=zvf hP.out.drew y2 (fun h0=>(HR.out.readF h0).2)
            have c2:=fun X (h:Pv w X tb mb ea eb vb s (zdg s 1 y2) ys)=>zqh h 1 y2
            have HRL:=HR.out.read 1 y2
            rw [hw] at HE
            obtain rfl:=HE.out
            clear hw
            generalize zfk s 1 y2=ff at c1 c2
            generalize zfx s 1 y2=bs at c1 c2
            generalize zdg s 1 y2=s2 at c1 c2 HRL
            have u1:wc.drew.cell? ⟨vb,1,none⟩=some (.int .i64 1):=(hP.out.drew.bv.c 1 (by decide)).trans (by rw [HY1.out])
            have u2:wc.drew.cell? ⟨vb,2,none⟩=some (.int .i64 y2):=(hP.out.drew.bv.c 2 (by decide)).trans (by rw [HY2.out])
            have up:wc.drew.cell? ⟨mb,1,none⟩=some (.pointer (some ⟨eb,0,none⟩)):=hP.out.drew.bo.c1
            go_upto_region 32 with fail
            go_cut [18,19] (fun s18 s19 wx=>s18= .int .i64 ff∧s19= .string bs∧Pv w wx tb mb ea eb vb s s2 ys)
            case first=>
             go_region_held3 (fun w'=>w'.cell? ⟨vb,1,none⟩=some (.int .i64 1)∧w'.cell? ⟨vb,2,none⟩=some (.int .i64 y2)∧w'.cell? ⟨mb,1,none⟩=some (.pointer (some ⟨eb,0,none⟩))) (go_keep) (first | (go_at_call 17;refine c1.mono ?_;rintro e w11 ⟨rfl,hP11⟩;have q1:=(hP11.bv.c 1 (by decide)).trans (by rw [HY1.out]);have q2:=(hP11.bv.c 2 (by decide)).trans (by rw [HY2.out]);have q3:=hP11.bo.c1))
             all_goals (try go_wp2_with fail)
             all_goals go_meet
             all_goals exact ⟨rfl,rfl,by first | exact hP11 | exact hP11.drew⟩
            case rest=>
             obtain ⟨rfl,rfl,hP11⟩:=hcut
             clear c1 u1 u2 up v0 v1 v2
             have v1:=(hP11.bv.c 1 (by decide)).trans (by rw [HY1.out])
             have v2:=(hP11.bv.c 2 (by decide)).trans (by rw [HY2.out])
             have c2:=c2 _ hP11
             have c3:=zd9 ff
             generalize errV ff=er at c2 c3
             go_wp2_with (first | (go_at_call 10;refine c2.mono ?_;rintro e w12 ⟨rfl,hP12⟩;clear c2) | (go_at_call 14;refine (c3 _ (HV.out.2.below hP12.bel)).mono ?_;rintro e w13 ⟨rfl,hb13⟩))
             go_meet
             exact ⟨by simp,_,(hP12.below hb13).bo.none,HRL.more⟩
        by_cases s2:y0=2
        ·subst s2
         as_aux_lemma=>
          have hPd:=hP.out.drew
          have c1:=zwu hPd y1 (fun hw=>HR.out.made (by omega) hw) HV.out.1
          have c2:=fun X (h:Pv w X tb mb ea eb vb (zca s y1) s ys)=>zsd h y1 (fun hw=>HR.out.made (by omega) hw)
          have HRL:=HR.out.send (by omega) y1
          generalize zcj s y1=ff at c1 c2
          generalize zca s y1=s2 at c1 c2 HRL
          have c3:=zd9 ff
          generalize errV ff=er at c1 c3
          have u1:wc.drew.cell? ⟨vb,1,none⟩=some (.int .i64 y1):=(hPd.bv.c 1 (by decide)).trans (by rw [HY1.out])
          clear hPd
          go_upto_region 37 with fail
          go_region_held3 (fun w'=>w'.cell? ⟨vb,1,none⟩=some (.int .i64 y1)) (go_keep) (first | (go_at_call 8;refine c1.mono ?_;rintro e w11 ⟨rfl,hP11⟩;have q1:=(hP11.bv.c 1 (by decide)).trans (by rw [HY1.out])) | (go_at_call 18;refine (c2 _ hP11).mono ?_;rintro e w12 ⟨rfl,hP12⟩;have r1:=(hP12.bv.c 1 (by decide)).trans (by rw [HY1.out])) | (go_at_call 14;refine (c3 _ (HV.out.2.below hP12.bel)).mono ?_;rintro e w13 ⟨rfl,hb13⟩;have hP13:=hP12.below hb13;have q2:=(hP13.bv.c 1 (by decide)).trans (by rw [HY1.out])))
          all_goals (try go_wp2_with fail)
          all_goals go_meet
          all_goals exact ⟨rfl,_,hP13.bo.none,HRL⟩
        by_cases s3:y0=3
        ·subst s3
         as_aux_lemma=>
          have hPd:=hP.out.drew
          have c1:=zwu hPd y1 (fun hw=>HR.out.made (by omega) hw) HV.out.1
          have c2:=fun X (h:Pv w X tb mb ea eb vb (zca s y1) s ys)=>zsd h y1 (fun hw=>HR.out.made (by omega) hw)
          have HRL:=HR.out.send (by omega) y1
          generalize zcj s y1=ff at c1 c2
          generalize zca s y1=s2 at c1 c2 HRL
          have c3:=zd9 ff
          generalize errV ff=er at c1 c3
          have u1:wc.drew.cell? ⟨vb,1,none⟩=some (.int .i64 y1):=(hPd.bv.c 1 (by decide)).trans (by rw [HY1.out])
          clear hPd
          go_upto_region 37 with fail
          go_region_held3 (fun w'=>w'.cell? ⟨vb,1,none⟩=some (.int .i64 y1)) (go_keep) (first | (go_at_call 8;refine c1.mono ?_;rintro e w11 ⟨rfl,hP11⟩;have q1:=(hP11.bv.c 1 (by decide)).trans (by rw [HY1.out])) | (go_at_call 18;refine (c2 _ hP11).mono ?_;rintro e w12 ⟨rfl,hP12⟩;have r1:=(hP12.bv.c 1 (by decide)).trans (by rw [HY1.out])) | (go_at_call 14;refine (c3 _ (HV.out.2.below hP12.bel)).mono ?_;rintro e w13 ⟨rfl,hb13⟩;have hP13:=hP12.below hb13;have q2:=(hP13.bv.c 1 (by decide)).trans (by rw [HY1.out])))
          all_goals (try go_wp2_with fail)
          all_goals go_meet
          all_goals exact ⟨rfl,_,hP13.bo.none,HRL⟩
        by_cases s4:y0=4
        ·subst s4
         as_aux_lemma=>
          have hPd:=hP.out.drew
          have c1:=zvd hPd y1 HV.out.1
          have c2:=fun X (h:Pv w X tb mb ea eb vb (zdx s y1) s ys)=>zrf h y1 (fun who hw=>HR.out.next (by omega) hw)
          have HRL:=HR.out.come (by omega) y1
          generalize zfy s y1=ff at c1 c2
          generalize zdx s y1=s2 at c1 c2 HRL
          have c3:=zd9 ff
          generalize errV ff=er at c1 c3
          have u1:wc.drew.cell? ⟨vb,1,none⟩=some (.int .i64 y1):=(hPd.bv.c 1 (by decide)).trans (by rw [HY1.out])
          clear hPd
          go_upto_region 40 with fail
          go_region_held3 (fun w'=>w'.cell? ⟨vb,1,none⟩=some (.int .i64 y1)) (go_keep) (first | (go_at_call 9;refine c1.mono ?_;rintro e w11 ⟨rfl,hP11⟩;have q1:=(hP11.bv.c 1 (by decide)).trans (by rw [HY1.out])) | (go_at_call 19;refine (c2 _ hP11).mono ?_;rintro e w12 ⟨rfl,hP12⟩;have r1:=(hP12.bv.c 1 (by decide)).trans (by rw [HY1.out])) | (go_at_call 14;refine (c3 _ (HV.out.2.below hP12.bel)).mono ?_;rintro e w13 ⟨rfl,hb13⟩;have hP13:=hP12.below hb13;have q2:=(hP13.bv.c 1 (by decide)).trans (by rw [HY1.out])))
          all_goals (try go_wp2_with fail)
          all_goals go_meet
          all_goals exact ⟨rfl,_,hP13.bo.none,HRL.more⟩
        by_cases s5:y0=5
        ·subst s5
         as_aux_lemma=>
          have hPd:=hP.out.drew
          have c1:=zvd hPd y1 HV.out.1
          have c2:=fun X (h:Pv w X tb mb ea eb vb (zdx s y1) s ys)=>zrf h y1 (fun who hw=>HR.out.next (by omega) hw)
          have HRL:=HR.out.come (by omega) y1
          generalize zfy s y1=ff at c1 c2
          generalize zdx s y1=s2 at c1 c2 HRL
          have c3:=zd9 ff
          generalize errV ff=er at c1 c3
          have u1:wc.drew.cell? ⟨vb,1,none⟩=some (.int .i64 y1):=(hPd.bv.c 1 (by decide)).trans (by rw [HY1.out])
          clear hPd
          go_upto_region 40 with fail
          go_region_held3 (fun w'=>w'.cell? ⟨vb,1,none⟩=some (.int .i64 y1)) (go_keep) (first | (go_at_call 9;refine c1.mono ?_;rintro e w11 ⟨rfl,hP11⟩;have q1:=(hP11.bv.c 1 (by decide)).trans (by rw [HY1.out])) | (go_at_call 19;refine (c2 _ hP11).mono ?_;rintro e w12 ⟨rfl,hP12⟩;have r1:=(hP12.bv.c 1 (by decide)).trans (by rw [HY1.out])) | (go_at_call 14;refine (c3 _ (HV.out.2.below hP12.bel)).mono ?_;rintro e w13 ⟨rfl,hb13⟩;have hP13:=hP12.below hb13;have q2:=(hP13.bv.c 1 (by decide)).trans (by rw [HY1.out])))
          all_goals (try go_wp2_with fail)
          all_goals go_meet
          all_goals exact ⟨rfl,_,hP13.bo.none,HRL.more⟩
        by_cases s6:y0=6
        ·subst s6
         as_aux_lemma=>
          have c1:=zF5 hP.out y1
          have c2:=fun X (h:Pv w X tb mb ea eb vb s (zd0 s y1) ys)=>zD3 h y1
          have HRL:=HR.out.lose y1
          generalize Lk.zik s.ls y1=ff at c1 c2
          generalize (Lk.zgu s.ls y1).1=z0 at c1
          generalize (Lk.zgu s.ls y1).2=z1 at c1
          generalize zd0 s y1=s2 at c1 c2 HRL
          have c3:=zd9 ff
          generalize errV ff=er at c2 c3
          go_wp2_with fail
          refine c1.mono ?_
          rintro e w11 ⟨rfl,hP11⟩
          clear c1 v0 v1 v2
          have hP12:=hP11.below ((Below.refl _ _).alloc (Nat.le_refl _) (.cells #[.int .i64 z0,.string z1] 52))
          have v1:=(hP12.bv.c 1 (by decide)).trans (by rw [HY1.out])
          have c2:=c2 _ hP12
          clear hP11 hP12
          go_wp2_with (first | (go_at_call 11;refine c2.mono ?_;rintro e w13 ⟨rfl,hP13⟩;clear c2) | (go_at_call 14;refine (c3 _ (HV.out.2.below hP13.bel)).mono ?_;rintro e w14 ⟨rfl,hb14⟩))
          go_meet
          exact ⟨rfl,_,(hP13.below hb14).bo.none,HRL.more⟩
        ·have b0:(y0==0)=false:=by simpa using s0
         have b1:(y0==1)=false:=by simpa using s1
         have b2:(y0==2)=false:=by simpa using s2
         have b3:(y0==3)=false:=by simpa using s3
         have b4:(y0==4)=false:=by simpa using s4
         have b5:(y0==5)=false:=by simpa using s5
         have b6:(y0==6)=false:=by simpa using s6
         clear s0 s1 s2 s3 s4 s5 s6
         as_aux_lemma=>
          have hPd:=hP.out.drew
          have c1:=zAi hPd y1
          have c2:=fun X (h:Pv w X tb mb ea eb vb (zeu s y1) s ys)=>zxv h y1
          have HRL:=HR.out.twice y1
          generalize Lk.twF s.ls y1=ff at c1 c2
          generalize zeu s y1=s2 at c1 c2 HRL
          have c3:=zd9 ff
          generalize errV ff=er at c1 c3
          have u1:wc.drew.cell? ⟨vb,1,none⟩=some (.int .i64 y1):=(hPd.bv.c 1 (by decide)).trans (by rw [HY1.out])
          clear hPd
          go_upto_region 22 with fail
          go_region_held3 (fun w'=>w'.cell? ⟨vb,1,none⟩=some (.int .i64 y1)) (go_keep) (first | (go_at_call 12;refine c1.mono ?_;rintro e w11 ⟨rfl,hP11⟩;have q1:=(hP11.bv.c 1 (by decide)).trans (by rw [HY1.out])) | (go_at_call 21;refine (c2 _ hP11).mono ?_;rintro e w12 ⟨rfl,hP12⟩;have r1:=(hP12.bv.c 1 (by decide)).trans (by rw [HY1.out])) | (go_at_call 14;refine (c3 _ (HV.out.2.below hP12.bel)).mono ?_;rintro e w13 ⟨rfl,hb13⟩;have hP13:=hP12.below hb13;have q2:=(hP13.bv.c 1 (by decide)).trans (by rw [HY1.out])))
          all_goals (try go_wp2_with fail)
          all_goals go_meet
          all_goals exact ⟨rfl,_,hP13.bo.none,HRL.more⟩
       case rest=>
        clear v0 v1 v2 hP HR
        obtain ⟨rfl,s,hE,hG⟩:=hcut
        have HG:Hid (Gd n (k+1) s):=hG
        have hop:=fun nq=>zAn (hE.below (below_drewN (Below.refl wc.heap.size wc) nq))
        have hE2:=fun nq=>hE.below (below_drewN (Below.refl wc.heap.size wc) nq)
        obtain ⟨a2,cap2,c0⟩:=hE.c2
        have hlm:s.ls.length≤40:=hE.few.1
        clear hE hG
        go_wp2_with fail
        go_quiet (first | (go_at_call 13;refine Calls.quiet_of_same (hop _)))
        go_wp2_with fail
        go_roundg (80-(k+1))
        case measure=>have:=HK.out;omega
        case rel=>exact ⟨k+1,s,by have:=HK.out;omega,by go_num,hE2 _,HG⟩
   ·go_wp2_with fail
    go_ret
    exact ⟨rfl,hE.bel⟩
  ·go_wp2_with fail
   go_ret
   exact ⟨rfl,hE.bel⟩
theorem zn6 (n:Int) {v u:Value} {w:World} (hv:zli w v) (hu:zm4 w u) (hV:(V.Forms w∧Cnts w)∧Handle w):Calls Tryz.prog 5 #[.int .i64 n,v,u] w fun e w'=>e= .returned (.bool true)∧Below w.heap.size w w':=by
 obtain ⟨ao,len,c,rfl,hS⟩:=hv
 obtain ⟨ta,tl,tc,rfl,htl,hT⟩:=hu
 cases h:Cx.winB n with
 | true=>exact zui n ao len c ta tl tc w hV hS htl hT h
 | false=>exact zwx n _ _ w hV h
end Go.Proofs.YtdnehibcpkjafaaGreatDoor
