/- What TalkPlays needs. -/
import Derived.Test.YtdnehibcpkjafaaGreatDoorHUA
import Derived.Test.YtdnehibcpkjafaaGreatDoorHY
import Derived.Test.YtdnehibcpkjafaaGreatDoorHJ
set_option linter.unusedVariables false
set_option linter.unusedSimpArgs false
set_option maxRecDepth 100000
set_option maxHeartbeats 8000000
namespace Go.Proofs.YtdnehibcpkjafaaGreatDoor
open Go.RowKit Go.Lib Go.Sort
theorem zpe (tb:Nat) (who:Int) (w:World) (hw:Lk.endB who=false):Calls Tryz.prog 24 #[.pointer (some ⟨tb,0,none⟩),.int .i64 who] w fun ex w'=>ex= .returned (.tuple #[.pointer none,.iface 78 (.int .i64 1)])∧w'=w:=by
 have h1:=of_decide_eq_false hw
 clear hw
 by_cases h2:who<0
 ·clear h1
  go_enter Tryz.func24,Tryz.ntmps24
  go_wp2_with fail
  go_ret2
  exact ⟨rfl,rfl⟩
 ·have h3:2≤who:=by omega
  clear h1
  go_enter Tryz.func24,Tryz.ntmps24
  go_wp2_with fail
  go_ret2
  exact ⟨rfl,rfl⟩
theorem zrn (tb:Nat) (w:World):Calls Tryz.prog 24 #[.pointer (some ⟨tb,0,none⟩),.int .i64 0] w fun ex w'=>ex= .returned (.tuple #[.pointer (some ⟨tb,0,none⟩),.nilIface])∧w'=w:=by
 go_enter Tryz.func24,Tryz.ntmps24
 go_wp2_with fail
 go_ret2
 exact ⟨rfl,rfl⟩
theorem zq3 (tb:Nat) (w:World):Calls Tryz.prog 24 #[.pointer (some ⟨tb,0,none⟩),.int .i64 1] w fun ex w'=>ex= .returned (.tuple #[.pointer (some ⟨tb,251,none⟩),.nilIface])∧w'=w:=by
 go_enter Tryz.func24,Tryz.ntmps24
 go_wp2_with fail
 go_ret2
 exact ⟨rfl,rfl⟩
theorem zrr (who:Int) (w:World) (h:Lk.endB who=true):Calls Tryz.prog 28 #[.int .i64 who] w fun ex w'=>ex= .returned (.int .i64 (1-who))∧w'=w:=by
 rcases zav h with rfl | rfl
 ·go_enter Tryz.func28,Tryz.ntmps28
  go_wp2_with fail
  go_ret
  exact ⟨rfl,rfl⟩
 ·go_enter Tryz.func28,Tryz.ntmps28
  go_wp2_with fail
  go_ret
  exact ⟨rfl,rfl⟩
theorem zus (tb:Nat) (who:Int) (d:ByteArray) (w:World) (hw:Lk.endB who=false):Calls Tryz.prog 7 #[.pointer (some ⟨tb,0,none⟩),.int .i64 who,.string d] w fun ex w'=>ex= .returned (.iface 78 (.int .i64 1))∧w'=w:=by
 have HONE:=zpe tb who w hw
 clear hw
 go_enter Tryz.func7,Tryz.ntmps7
 go_wp2_with (go_at_call 24;refine HONE.mono ?_;rintro ex w1 ⟨rfl,hw1⟩;obtain rfl:=hw1.symm)
 go_ret
 exact ⟨rfl,rfl⟩
theorem zBe {w:World} {B tb:Nat} {u:Tv} {s:Tt} (h:TO w B tb u s) (d:ByteArray) (hl:d.size≤140737488351232):Calls Tryz.prog 7 #[.pointer (some ⟨tb,0,none⟩),.int .i64 0,.string d] w fun ex w'=>ex= .returned (errV (zee s.a d))∧TTurn w w' B tb u {s with a:=za9 s.a d}:=by
 have HONE:=zrn tb w
 have HW:=Ez.zkm h.a d hl
 have HT:Hid (∀w',Ez.TurnP 0 (fun i=>w.cell? ⟨tb,i,none⟩) w w' B tb u.la u.ca (za9 s.a d)→TTurn w w' B tb u {s with a:=za9 s.a d}):=fun w' ht=>TTurn.a h ht
 clear h
 generalize errV (zee s.a d)=er at HW ⊢
 go_enter Tryz.func7,Tryz.ntmps7
 go_wp2_with (first | (go_at_call 24;refine HONE.mono ?_;rintro ex w1 ⟨rfl,hw1⟩;obtain rfl:=hw1.symm) | (go_at_call 25;refine HW.mono ?_;rintro ex w2 ⟨rfl,ht2⟩))
 go_ret
 exact ⟨rfl,HT.out _ ht2⟩
theorem zBt {w:World} {B tb:Nat} {u:Tv} {s:Tt} (h:TO w B tb u s) (d:ByteArray) (hl:d.size≤140737488351232):Calls Tryz.prog 7 #[.pointer (some ⟨tb,0,none⟩),.int .i64 1,.string d] w fun ex w'=>ex= .returned (errV (zee s.b d))∧TTurn w w' B tb u {s with b:=za9 s.b d}:=by
 have HONE:=zq3 tb w
 have HW:=Ez.zkm h.b d hl
 have HT:Hid (∀w',Ez.TurnP 251 (fun i=>w.cell? ⟨tb,i,none⟩) w w' B tb u.lb u.cb (za9 s.b d)→TTurn w w' B tb u {s with b:=za9 s.b d}):=fun w' ht=>TTurn.b h ht
 clear h
 generalize errV (zee s.b d)=er at HW ⊢
 go_enter Tryz.func7,Tryz.ntmps7
 go_wp2_with (first | (go_at_call 24;refine HONE.mono ?_;rintro ex w1 ⟨rfl,hw1⟩;obtain rfl:=hw1.symm) | (go_at_call 25;refine HW.mono ?_;rintro ex w2 ⟨rfl,ht2⟩))
 go_ret
 exact ⟨rfl,HT.out _ ht2⟩
theorem zo5 {w:World} {B tb:Nat} {u:Tv} {s:Tt} (h:TO w B tb u s) (who:Int) (d:ByteArray) (hl:d.size≤140737488351232):Calls Tryz.prog 7 #[.pointer (some ⟨tb,0,none⟩),.int .i64 who,.string d] w fun ex w'=>ex= .returned (errV (zde s who d))∧TTurn w w' B tb u (zci s who d):=by
 cases hw:Lk.endB who with
 | false=>
  unfold zde zci
  rw [hw,if_neg (by decide),if_neg (by decide),zbh (by decide)]
  exact (zus tb who d w hw).mono fun ex w' ⟨a,b⟩=>⟨a,by rw [b];exact TTurn.same h⟩
 | true=>
  unfold zde zci
  rw [hw,if_pos rfl,if_pos rfl]
  rcases zav hw with rfl | rfl
  ·exact zBe h d hl
  ·exact zBt h d hl
theorem zBz (tb:Nat) (who n:Int) (w:World) (hw:Lk.endB who=false):Calls Tryz.prog 10 #[.pointer (some ⟨tb,0,none⟩),.int .i64 who,.int .i64 n] w fun ex w'=>ex= .returned (.tuple #[.string {data:= #[]},.iface 78 (.int .i64 1)])∧w'=w:=by
 have HONE:=zpe tb who w hw
 clear hw
 go_enter Tryz.func10,Tryz.ntmps10
 go_wp2_with (go_at_call 24;refine HONE.mono ?_;rintro ex w1 ⟨rfl,hw1⟩;obtain rfl:=hw1.symm)
 go_ret2
 exact ⟨rfl,rfl⟩
theorem zF8 {w:World} {B tb:Nat} {u:Tv} {s:Tt} (h:TO w B tb u s) (n:Int):Calls Tryz.prog 10 #[.pointer (some ⟨tb,0,none⟩),.int .i64 0,.int .i64 n] w fun ex w'=>ex= .returned (.tuple #[.string (zdc s.a n),errV (readF s.a n)])∧TTurn w w' B tb u {s with a:=zbg s.a n}:=by
 have HONE:=zrn tb w
 have HW:=Ez.zek h.a n
 have HT:Hid (∀w',Ez.TurnP 0 (fun i=>w.cell? ⟨tb,i,none⟩) w w' B tb u.la u.ca (zbg s.a n)→TTurn w w' B tb u {s with a:=zbg s.a n}):=fun w' ht=>TTurn.a h ht
 clear h
 generalize errV (readF s.a n)=er at HW ⊢
 generalize zdc s.a n=bs at HW ⊢
 go_enter Tryz.func10,Tryz.ntmps10
 go_wp2_with (first | (go_at_call 24;refine HONE.mono ?_;rintro ex w1 ⟨rfl,hw1⟩;obtain rfl:=hw1.symm) | (go_at_call 32;refine HW.mono ?_;rintro ex w2 ⟨rfl,ht2⟩))
 go_ret2
 exact ⟨rfl,HT.out _ ht2⟩
theorem zFk {w:World} {B tb:Nat} {u:Tv} {s:Tt} (h:TO w B tb u s) (n:Int):Calls Tryz.prog 10 #[.pointer (some ⟨tb,0,none⟩),.int .i64 1,.int .i64 n] w fun ex w'=>ex= .returned (.tuple #[.string (zdc s.b n),errV (readF s.b n)])∧TTurn w w' B tb u {s with b:=zbg s.b n}:=by
 have HONE:=zq3 tb w
 have HW:=Ez.zek h.b n
 have HT:Hid (∀w',Ez.TurnP 251 (fun i=>w.cell? ⟨tb,i,none⟩) w w' B tb u.lb u.cb (zbg s.b n)→TTurn w w' B tb u {s with b:=zbg s.b n}):=fun w' ht=>TTurn.b h ht
 clear h
 generalize errV (readF s.b n)=er at HW ⊢
 generalize zdc s.b n=bs at HW ⊢
 go_enter Tryz.func10,Tryz.ntmps10
 go_wp2_with (first | (go_at_call 24;refine HONE.mono ?_;rintro ex w1 ⟨rfl,hw1⟩;obtain rfl:=hw1.symm) | (go_at_call 32;refine HW.mono ?_;rintro ex w2 ⟨rfl,ht2⟩))
 go_ret2
 exact ⟨rfl,HT.out _ ht2⟩
theorem zpb {w:World} {B tb:Nat} {u:Tv} {s:Tt} (h:TO w B tb u s) (who n:Int):Calls Tryz.prog 10 #[.pointer (some ⟨tb,0,none⟩),.int .i64 who,.int .i64 n] w fun ex w'=>ex= .returned (.tuple #[.string (zfx s who n),errV (zfk s who n)])∧TTurn w w' B tb u (zdg s who n):=by
 cases hw:Lk.endB who with
 | false=>
  unfold zfk zdg zfx
  rw [hw,if_neg (by decide),if_neg (by decide),if_neg (by decide),zbh (by decide)]
  exact (zBz tb who n w hw).mono fun ex w' ⟨a,b⟩=>⟨a,by rw [b];exact TTurn.same h⟩
 | true=>
  unfold zfk zdg zfx
  rw [hw,if_pos rfl,if_pos rfl,if_pos rfl]
  rcases zav hw with rfl | rfl
  ·exact zF8 h n
  ·exact zFk h n
theorem zpl {w:World} {B tb:Nat} {u:Tv} {s:Tt} (h:TO w B tb u s) (i:Int):Calls Tryz.prog 11 #[.pointer (some ⟨tb,0,none⟩),.int .i64 i] w fun ex w'=>ex= .returned (errV (Lk.zik s.ls i))∧TTurn w w' B tb u (zd0 s i):=by
 have HW:=Lk.zst h.l i
 have HT:Hid (∀w',Lk.Turn (fun i=>w.cell? ⟨tb,i,none⟩) w w' 100 502 B tb u.v (Lk.zng s.ls i)→TTurn w w' B tb u (zd0 s i)):=fun w' ht=>TTurn.l h ht
 clear h
 generalize errV (Lk.zik s.ls i)=er at HW ⊢
 go_enter Tryz.func11,Tryz.ntmps11
 go_wp2_with (go_at_call 33;refine HW.mono ?_;rintro ex w2 ⟨rfl,ht2⟩)
 go_ret
 exact ⟨rfl,HT.out _ ht2⟩
theorem zne {w:World} {B tb:Nat} {u:Tv} {s:Tt} (h:TO w B tb u s) (i:Int):Calls Tryz.prog 12 #[.pointer (some ⟨tb,0,none⟩),.int .i64 i] w fun ex w'=>ex= .returned (errV (Lk.twF s.ls i))∧TTurn w w' B tb u (zeu s i):=by
 have HW:=Lk.zpp h.l i
 have HT:Hid (∀w',Lk.Turn (fun i=>w.cell? ⟨tb,i,none⟩) w w' 100 502 B tb u.v (Lk.twS s.ls i)→TTurn w w' B tb u (zeu s i)):=fun w' ht=>TTurn.l h ht
 clear h
 generalize errV (Lk.twF s.ls i)=er at HW ⊢
 go_enter Tryz.func12,Tryz.ntmps12
 go_wp2_with (go_at_call 34;refine HW.mono ?_;rintro ex w2 ⟨rfl,ht2⟩)
 go_ret
 exact ⟨rfl,HT.out _ ht2⟩
theorem znt {w:World} {B tb:Nat} {u:Tv} {s:Tt} (h:TO w B tb u s):Calls Tryz.prog 13 #[.pointer (some ⟨tb,0,none⟩)] w fun ex w'=>ex= .returned (.int .i64 (s.ls.length:Int))∧w'=w:=by
 have HW:=Lk.zdw h.l
 clear h
 generalize s.ls.length=m at HW ⊢
 go_enter Tryz.func13,Tryz.ntmps13
 go_wp2_with (go_at_call 26;refine HW.mono ?_;rintro ex w2 ⟨rfl,hw2⟩;obtain rfl:=hw2.symm)
 go_ret
 exact ⟨rfl,rfl⟩
theorem zCs (tb:Nat) (who:Int) (w:World) (hw:Lk.endB who=false):Calls Tryz.prog 8 #[.pointer (some ⟨tb,0,none⟩),.int .i64 who] w fun ex w'=>ex= .returned (.iface 78 (.int .i64 1))∧w'=w:=by
 have HONE:=zpe tb who w hw
 clear hw
 go_enter Tryz.func8,Tryz.ntmps8
 go_wp2_with (go_at_call 24;refine HONE.mono ?_;rintro ex w1 ⟨rfl,hw1⟩;obtain rfl:=hw1.symm)
 go_ret
 exact ⟨rfl,rfl⟩
theorem zql {w:World} {B tb:Nat} {u:Tv} {s:Tt} (h:TO w B tb u s) (hf:40≤s.ls.length):Calls Tryz.prog 8 #[.pointer (some ⟨tb,0,none⟩),.int .i64 0] w fun ex w'=>ex= .returned (.iface 78 (.int .i64 4))∧w'=w:=by
 have HONE:=zrn tb w
 have HC:=Lk.zdw h.l
 have hf':(40:Int)≤(s.ls.length:Int):=by omega
 clear h hf
 generalize s.ls.length=m at HC hf'
 go_enter Tryz.func8,Tryz.ntmps8
 go_wp2_with (first | (go_at_call 24;refine HONE.mono ?_;rintro ex w1 ⟨rfl,hw1⟩;obtain rfl:=hw1.symm) | (go_at_call 26;refine HC.mono ?_;rintro ex w2 ⟨rfl,hw2⟩;obtain rfl:=hw2.symm))
 go_ret
 exact ⟨rfl,rfl⟩
theorem zs7 {w:World} {B tb:Nat} {u:Tv} {s:Tt} (h:TO w B tb u s) (hf:s.ls.length<40) (hm:zcb s.a=0) (hF:V.Forms w) (hC:Cnts w):Calls Tryz.prog 8 #[.pointer (some ⟨tb,0,none⟩),.int .i64 0] w fun ex w'=>ex= .returned .nilIface∧TTurn w w' B tb u {s with a:=zbn s.a,ls:=s.ls++ [(1,zbj s.a)]}:=by
 have HONE:=zrn tb w
 have HC:=Lk.zdw h.l
 have HO:=zrr 0 w.drew rfl
 have HM:=Ez.zk7 (h.below ((Below.refl _ w).drew)).a (Ez.zlc h.ia) (hF.below ((Below.refl _ w).drew)) (hC.below ((Below.refl _ w).drew))
 have HK:Hid (∀w2,Ez.TurnP 0 (fun i=>w.cell? ⟨tb,i,none⟩) w.drew w2 B tb u.la u.ca (zbn s.a)→∃u2,TO w2 B tb u2 {s with a:=zbn s.a}∧(Calls Tryz.prog 27 #[.pointer (some ⟨tb,502,none⟩),.int .i64 1,.string (zbj s.a)] w2 fun ex w'=>ex= .returned .nilIface∧TTurn w w' B tb u {s with a:=zbn s.a,ls:=s.ls++ [(1,zbj s.a)]})):=by
  show∀w2,_→_
  intro w2 ht
  obtain ⟨u2,o2,f2,k2⟩:=TTurn.drew (TTurn.a (h.below ((Below.refl _ w).drew)) ht)
  refine ⟨u2,o2,?_⟩
  have e1:Lk.zfv s.ls 1 (zbj s.a)=0:=by
   unfold Lk.zfv
   rw [if_pos (show Lk.endB 1=true from rfl),if_neg (by have:=zdz hm;omega)]
  have hs:=Lk.zhr o2.l 1 (zbj s.a) (by have:=zdz hm;omega)
  refine hs.mono fun ex w' ⟨a,b⟩=>⟨?_,?_⟩
  ·rw [a,e1,zdk]
  ·rw [Lk.zgj e1] at b
   exact TTurn.trans o2 f2 k2 (TTurn.l o2 b)
 have hf':¬(40:Int)≤(s.ls.length:Int):=by omega
 clear h hf hm hF hC
 generalize s.ls.length=m at HC hf'
 generalize ({s with a:=zbn s.a,ls:=s.ls++ [(1,zbj s.a)]}:Tt)=s2 at HK ⊢
 generalize zbj s.a=bs at HM HK
 go_enter Tryz.func8,Tryz.ntmps8
 go_wp2_with (first | (go_at_call 24;refine HONE.mono ?_;rintro ex w1 ⟨rfl,hw1⟩;obtain rfl:=hw1.symm) | (go_at_call 26;refine HC.mono ?_;rintro ex w2 ⟨rfl,hw2⟩;obtain rfl:=hw2.symm))
 go_region_with (first | (go_at_call 28;refine (zrr 0 _ rfl).mono ?_;rintro ex w2 ⟨rfl,hw2⟩;obtain rfl:=hw2.symm) | (go_at_call 29;refine HM.mono ?_;rintro ex w3 ⟨rfl,ht3⟩;obtain ⟨u3,ho3,HS3⟩:=HK.out w3 ht3) | (go_at_call 27;refine HS3.mono ?_;rintro ex w4 ⟨rfl,ht4⟩))
 all_goals (try go_wp2_with fail)
 all_goals go_ret
 all_goals exact ⟨rfl,ht4⟩
theorem zpi {w:World} {B tb:Nat} {u:Tv} {s:Tt} (h:TO w B tb u s) (hf:40≤s.ls.length):Calls Tryz.prog 8 #[.pointer (some ⟨tb,0,none⟩),.int .i64 1] w fun ex w'=>ex= .returned (.iface 78 (.int .i64 4))∧w'=w:=by
 have HONE:=zq3 tb w
 have HC:=Lk.zdw h.l
 have hf':(40:Int)≤(s.ls.length:Int):=by omega
 clear h hf
 generalize s.ls.length=m at HC hf'
 go_enter Tryz.func8,Tryz.ntmps8
 go_wp2_with (first | (go_at_call 24;refine HONE.mono ?_;rintro ex w1 ⟨rfl,hw1⟩;obtain rfl:=hw1.symm) | (go_at_call 26;refine HC.mono ?_;rintro ex w2 ⟨rfl,hw2⟩;obtain rfl:=hw2.symm))
 go_ret
 exact ⟨rfl,rfl⟩
theorem zsm {w:World} {B tb:Nat} {u:Tv} {s:Tt} (h:TO w B tb u s) (hf:s.ls.length<40) (hm:zcb s.b=0) (hF:V.Forms w) (hC:Cnts w):Calls Tryz.prog 8 #[.pointer (some ⟨tb,0,none⟩),.int .i64 1] w fun ex w'=>ex= .returned .nilIface∧TTurn w w' B tb u {s with b:=zbn s.b,ls:=s.ls++ [(0,zbj s.b)]}:=by
 have HONE:=zq3 tb w
 have HC:=Lk.zdw h.l
 have HO:=zrr 1 w.drew rfl
 have HM:=Ez.zk7 (h.below ((Below.refl _ w).drew)).b (Ez.zlc h.ib) (hF.below ((Below.refl _ w).drew)) (hC.below ((Below.refl _ w).drew))
 have HK:Hid (∀w2,Ez.TurnP 251 (fun i=>w.cell? ⟨tb,i,none⟩) w.drew w2 B tb u.lb u.cb (zbn s.b)→∃u2,TO w2 B tb u2 {s with b:=zbn s.b}∧(Calls Tryz.prog 27 #[.pointer (some ⟨tb,502,none⟩),.int .i64 0,.string (zbj s.b)] w2 fun ex w'=>ex= .returned .nilIface∧TTurn w w' B tb u {s with b:=zbn s.b,ls:=s.ls++ [(0,zbj s.b)]})):=by
  show∀w2,_→_
  intro w2 ht
  obtain ⟨u2,o2,f2,k2⟩:=TTurn.drew (TTurn.b (h.below ((Below.refl _ w).drew)) ht)
  refine ⟨u2,o2,?_⟩
  have e1:Lk.zfv s.ls 0 (zbj s.b)=0:=by
   unfold Lk.zfv
   rw [if_pos (show Lk.endB 0=true from rfl),if_neg (by have:=zdz hm;omega)]
  have hs:=Lk.zhr o2.l 0 (zbj s.b) (by have:=zdz hm;omega)
  refine hs.mono fun ex w' ⟨a,b⟩=>⟨?_,?_⟩
  ·rw [a,e1,zdk]
  ·rw [Lk.zgj e1] at b
   exact TTurn.trans o2 f2 k2 (TTurn.l o2 b)
 have hf':¬(40:Int)≤(s.ls.length:Int):=by omega
 clear h hf hm hF hC
 generalize s.ls.length=m at HC hf'
 generalize ({s with b:=zbn s.b,ls:=s.ls++ [(0,zbj s.b)]}:Tt)=s2 at HK ⊢
 generalize zbj s.b=bs at HM HK
 go_enter Tryz.func8,Tryz.ntmps8
 go_wp2_with (first | (go_at_call 24;refine HONE.mono ?_;rintro ex w1 ⟨rfl,hw1⟩;obtain rfl:=hw1.symm) | (go_at_call 26;refine HC.mono ?_;rintro ex w2 ⟨rfl,hw2⟩;obtain rfl:=hw2.symm))
 go_region_with (first | (go_at_call 28;refine (zrr 1 _ rfl).mono ?_;rintro ex w2 ⟨rfl,hw2⟩;obtain rfl:=hw2.symm) | (go_at_call 29;refine HM.mono ?_;rintro ex w3 ⟨rfl,ht3⟩;obtain ⟨u3,ho3,HS3⟩:=HK.out w3 ht3) | (go_at_call 27;refine HS3.mono ?_;rintro ex w4 ⟨rfl,ht4⟩))
 all_goals (try go_wp2_with fail)
 all_goals go_ret
 all_goals exact ⟨rfl,ht4⟩
theorem zpa {w:World} {B tb:Nat} {u:Tv} {s:Tt} (h:TO w B tb u s) (who:Int) (hm:Lk.endB who=true→zcb (s.who who)=0) (hF:V.Forms w) (hC:Cnts w):Calls Tryz.prog 8 #[.pointer (some ⟨tb,0,none⟩),.int .i64 who] w fun ex w'=>ex= .returned (errV (zcj s who))∧TTurn w w' B tb u (zca s who):=by
 cases hw:Lk.endB who with
 | false=>
  have e1:zcj s who=1:=by unfold zcj;rw [hw,if_neg (by decide)]
  have e2:zca s who=s:=by unfold zca;rw [e1,if_neg (by decide)]
  rw [e1,e2,zbh (by decide)]
  exact (zCs tb who w hw).mono fun ex w' ⟨a,b⟩=>⟨a,by rw [b];exact TTurn.same h⟩
 | true=>
  have hm:=hm hw
  by_cases hf:40≤s.ls.length
  ·have e1:zcj s who=4:=by unfold zcj;rw [hw,if_pos rfl,if_pos hf]
   have e2:zca s who=s:=by unfold zca;rw [e1,if_neg (by decide)]
   rw [e1,e2,zbh (by decide)]
   rcases zav hw with rfl | rfl
   ·exact (zql h hf).mono fun ex w' ⟨a,b⟩=>⟨a,by rw [b];exact TTurn.same h⟩
   ·exact (zpi h hf).mono fun ex w' ⟨a,b⟩=>⟨a,by rw [b];exact TTurn.same h⟩
  ·have e1:zcj s who=0:=by unfold zcj;rw [hw,if_pos rfl,if_neg hf]
   have e2:zca s who= {s.set who (zbn (s.who who)) with ls:=s.ls++ [(1-who,zbj (s.who who))]}:=by unfold zca;rw [e1,if_pos rfl]
   rw [e1,e2,zdk]
   rcases zav hw with rfl | rfl
   ·exact zs7 h (by omega) hm hF hC
   ·exact zsm h (by omega) hm hF hC
theorem zB9 {w:World} {B tb:Nat} {u:Tv} {s:Tt} (h:TO w B tb u s) (i:Int) (hi:Lk.onB s.ls i=false):Calls Tryz.prog 9 #[.pointer (some ⟨tb,0,none⟩),.int .i64 i] w fun ex w'=>ex= .returned (.iface 78 (.int .i64 1))∧w'=w:=by
 have HG:=Lk.zzd h.l i hi
 clear h hi
 go_enter Tryz.func9,Tryz.ntmps9
 go_wp2_with (go_at_call 30;refine HG.mono ?_;rintro ex w2 ⟨rfl,hw2⟩;obtain rfl:=hw2.symm)
 go_ret
 exact ⟨rfl,rfl⟩
theorem zFd {w0 w:World} {tb:Nat} {u:Tv} {s:Tt} (h:TO w w0.heap.size tb u s) (hV:V.Forms w0∧Cnts w0) (hb:Below w0.heap.size w0 w) (p:Nat) (hp:p<s.ls.length) (bs:ByteArray) (ha:Lk.at' s.ls p=(0,bs)):Calls Tryz.prog 9 #[.pointer (some ⟨tb,0,none⟩),.int .i64 (p:Int)] w fun ex w'=>ex= .returned (errV (zbf s.a bs).1)∧TTurn w w' w0.heap.size tb u {s with a:=(zbf s.a bs).2,ls:=Lk.cut1 s.ls p}:=by
 have hz:=(h.il.ok _ (Lk.at_mem hp)).2
 rw [ha] at hz
 have HG:=Lk.zlo h.l p hp (p:Int) rfl
 rw [ha] at HG
 have HK:Hid (∀w2,Lk.Turn (fun i=>w.cell? ⟨tb,i,none⟩) w w2 100 502 w0.heap.size tb u.v (Lk.cut1 s.ls p)→Calls Tryz.prog 31 #[.pointer (some ⟨tb,0,none⟩),.string bs] w2 fun ex w'=>ex= .returned (errV (zbf s.a bs).1)∧TTurn w w' w0.heap.size tb u {s with a:=(zbf s.a bs).2,ls:=Lk.cut1 s.ls p}):=by
  show∀w2,_→_
  intro w2 ht
  obtain ⟨u2,o2,f2,k2⟩:=TTurn.l h ht
  have hB2:Below w0.heap.size w0 w2:=hb.trans (f2.below (fun k hk=>(h.own_lt hk).1) hb.size)
  exact (Ez.zki o2.a bs (by simp only at hz;omega) (hV.1.below hB2) (hV.2.below hB2) (fun n fs h3=>zws h3)).mono fun ex w' ⟨a,b⟩=>⟨a,TTurn.trans o2 f2 k2 (TTurn.a o2 b)⟩
 clear h hp ha hz hV hb
 generalize errV (zbf s.a bs).1=er at HK ⊢
 generalize ({s with a:=(zbf s.a bs).2,ls:=Lk.cut1 s.ls p}:Tt)=s2 at HK ⊢
 go_enter Tryz.func9,Tryz.ntmps9
 go_wp2_with (first | (go_at_call 30;refine HG.mono ?_;rintro ex w2 ⟨rfl,ht2⟩;have HT2:=HK.out w2 ht2) | (go_at_call 31;refine HT2.mono ?_;rintro ex w3 ⟨rfl,ht3⟩))
 go_ret
 exact ⟨rfl,ht3⟩
theorem zFw {w0 w:World} {tb:Nat} {u:Tv} {s:Tt} (h:TO w w0.heap.size tb u s) (hV:V.Forms w0∧Cnts w0) (hb:Below w0.heap.size w0 w) (p:Nat) (hp:p<s.ls.length) (bs:ByteArray) (ha:Lk.at' s.ls p=(1,bs)):Calls Tryz.prog 9 #[.pointer (some ⟨tb,0,none⟩),.int .i64 (p:Int)] w fun ex w'=>ex= .returned (errV (zbf s.b bs).1)∧TTurn w w' w0.heap.size tb u {s with b:=(zbf s.b bs).2,ls:=Lk.cut1 s.ls p}:=by
 have hz:=(h.il.ok _ (Lk.at_mem hp)).2
 rw [ha] at hz
 have HG:=Lk.zlo h.l p hp (p:Int) rfl
 rw [ha] at HG
 have HK:Hid (∀w2,Lk.Turn (fun i=>w.cell? ⟨tb,i,none⟩) w w2 100 502 w0.heap.size tb u.v (Lk.cut1 s.ls p)→Calls Tryz.prog 31 #[.pointer (some ⟨tb,251,none⟩),.string bs] w2 fun ex w'=>ex= .returned (errV (zbf s.b bs).1)∧TTurn w w' w0.heap.size tb u {s with b:=(zbf s.b bs).2,ls:=Lk.cut1 s.ls p}):=by
  show∀w2,_→_
  intro w2 ht
  obtain ⟨u2,o2,f2,k2⟩:=TTurn.l h ht
  have hB2:Below w0.heap.size w0 w2:=hb.trans (f2.below (fun k hk=>(h.own_lt hk).1) hb.size)
  exact (Ez.zki o2.b bs (by simp only at hz;omega) (hV.1.below hB2) (hV.2.below hB2) (fun n fs h3=>zws h3)).mono fun ex w' ⟨a,b⟩=>⟨a,TTurn.trans o2 f2 k2 (TTurn.b o2 b)⟩
 clear h hp ha hz hV hb
 generalize errV (zbf s.b bs).1=er at HK ⊢
 generalize ({s with b:=(zbf s.b bs).2,ls:=Lk.cut1 s.ls p}:Tt)=s2 at HK ⊢
 go_enter Tryz.func9,Tryz.ntmps9
 go_wp2_with (first | (go_at_call 30;refine HG.mono ?_;rintro ex w2 ⟨rfl,ht2⟩;have HT2:=HK.out w2 ht2) | (go_at_call 31;refine HT2.mono ?_;rintro ex w3 ⟨rfl,ht3⟩))
 go_ret
 exact ⟨rfl,ht3⟩
theorem zpw {w0 w:World} {tb:Nat} {u:Tv} {s:Tt} (h:TO w w0.heap.size tb u s) (hV:V.Forms w0∧Cnts w0) (hb:Below w0.heap.size w0 w) (i:Int):Calls Tryz.prog 9 #[.pointer (some ⟨tb,0,none⟩),.int .i64 i] w fun ex w'=>ex= .returned (errV (zfy s i))∧TTurn w w' w0.heap.size tb u (zdx s i):=by
 cases hi:Lk.onB s.ls i with
 | false=>
  unfold zfy zdx
  rw [hi,if_neg (by decide),if_neg (by decide),zbh (by decide)]
  exact (zB9 h i hi).mono fun ex w' ⟨a,b⟩=>⟨a,by rw [b];exact TTurn.same h⟩
 | true=>
  obtain ⟨p,rfl,hp⟩:=Lk.ze2 hi
  unfold zfy zdx
  rw [hi,if_pos rfl,if_pos rfl,Int.toNat_natCast]
  have hok:=(h.il.ok _ (Lk.at_mem hp)).1
  have ha:Lk.at' s.ls p=((Lk.at' s.ls p).1,(Lk.at' s.ls p).2):=rfl
  rcases zav hok with e | e
  ·rw [e] at ha ⊢
   exact zFd h hV hb p hp _ ha
  ·rw [e] at ha ⊢
   exact zFw h hV hb p hp _ ha
end Go.Proofs.YtdnehibcpkjafaaGreatDoor
