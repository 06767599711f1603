/- What TalkPlays needs. -/
import Derived.Test.YtdnehibcpkjafaaGreatDoorHDE
import Derived.Test.YtdnehibcpkjafaaGreatDoorHL
set_option linter.unusedVariables false
set_option linter.unusedSimpArgs false
set_option maxRecDepth 100000
set_option maxHeartbeats 8000000
namespace Go.Proofs.YtdnehibcpkjafaaGreatDoor
open Go.RowKit Go.Lib Go.Sort
structure De where
 vm:Value
 vc:Value
 sb:Nat
 cb:Nat
 us:List Value
 md:List (List Pc)
structure Dv where
 pa:De
 pb:De
 v:Value
def ze6 (e:Nat) (p:De) (k:Nat):Prop:=OwnD e p.vm p.vc p.sb p.cb p.us k
structure DTk (w:World) (B mb ea eb:Nat) (d:Dv) (m:Tt):Prop where
 a:DO w B ea d.pa.vm d.pa.vc d.pa.sb d.pa.cb d.pa.us d.pa.md m.a
 b:DO w B eb d.pb.vm d.pb.vc d.pb.sb d.pb.cb d.pb.us d.pb.md m.b
 c0:w.cell? ⟨mb,0,none⟩=some (.pointer (some ⟨ea,0,none⟩))
 c1:w.cell? ⟨mb,1,none⟩=some (.pointer (some ⟨eb,0,none⟩))
 l:Lk.Lnk (fun i=>w.cell? ⟨mb,i,none⟩) w 52 2 B mb d.v m.ls
 ab:∀k,ze6 ea d.pa k→¬ze6 eb d.pb k
 al:∀k,ze6 ea d.pa k→¬Lk.own mb d.v k
 bl:∀k,ze6 eb d.pb k→¬Lk.own mb d.v k
def zgf (mb ea eb:Nat) (d:Dv) (k:Nat):Prop:=ze6 ea d.pa k∨ze6 eb d.pb k∨Lk.own mb d.v k
theorem zCl {Q:Nat→Option Value} {w:World} {T o B sb:Nat} {v:Value} {ls:List Lk.LR} (h:Lk.Lnk Q w T o B sb v ls):Lk.Lnk (fun i=>w.cell? ⟨sb,i,none⟩) w T o B sb v ls:=⟨h.inv,h.c,h.f,h.row,h.hs,h.nv,fun _ _=>rfl,h.rf⟩
section
variable {w w' w2 : World} {B mb ea eb : Nat} {d : Dv} {m m' : Tt}
theorem DTk.own_lt (h:DTk w B mb ea eb d m) {k:Nat} (hk:zgf mb ea eb d k):B≤k∧k<w.heap.size:=by
 rcases hk with hk | hk | hk
 ·exact h.a.own_lt hk
 ·exact h.b.own_lt hk
 ·exact ⟨h.l.ge hk,h.l.lt hk⟩
theorem DTk.le (h:DTk w B mb ea eb d m):B≤w.heap.size:=h.a.le
theorem DTk.off {K:Nat→Prop} (h:DTk w B mb ea eb d m) (ho:Off K w w') (hK:∀k,zgf mb ea eb d k→¬K k):DTk w' B mb ea eb d m:=
 ⟨h.a.off ho fun k hk=>hK k (.inl hk),h.b.off ho fun k hk=>hK k (.inr (.inl hk)),ho.cell h.c0 (hK mb (.inr (.inr (.inl rfl)))),ho.cell h.c1 (hK mb (.inr (.inr (.inl rfl)))),zCl (h.l.off ho fun k hk=>hK k (.inr (.inr hk))),h.ab,h.al,h.bl⟩
theorem DTk.below (h:DTk w B mb ea eb d m) (hb:Below w.heap.size w w'):DTk w' B mb ea eb d m:=h.off (Off.of_below (K:=fun _=>False) hb) fun _ _=>id
theorem DTk.base (h:DTk w B mb ea eb d m) {B':Nat} (hb:B'≤B):DTk w B' mb ea eb d m:=⟨h.a.base hb,h.b.base hb,h.c0,h.c1,h.l.base hb,h.ab,h.al,h.bl⟩
def DTTurn (w w':World) (B mb ea eb:Nat) (d:Dv) (m:Tt):Prop:=
 ∃d',DTk w' B mb ea eb d' m∧Off (zgf mb ea eb d) w w'∧∀k,zgf mb ea eb d' k→zgf mb ea eb d k∨w.heap.size≤k
theorem DTTurn.same (h:DTk w B mb ea eb d m):DTTurn w w B mb ea eb d m:=⟨d,h,Off.refl _ _,fun _ hk=> .inl hk⟩
theorem DTTurn.more (h:DTTurn w w' B mb ea eb d m) (hb:Below w'.heap.size w' w2):DTTurn w w2 B mb ea eb d m:=by
 obtain ⟨d',h1,h2,h3⟩:=h
 exact ⟨d',h1.below hb,h2.trans (Off.of_below hb),h3⟩
theorem DTTurn.trans {d1:Dv} (h1:DTk w' B mb ea eb d1 m) (ho:Off (zgf mb ea eb d) w w') (hk:∀k,zgf mb ea eb d1 k→zgf mb ea eb d k∨w.heap.size≤k) (h2:DTTurn w' w2 B mb ea eb d1 m'):DTTurn w w2 B mb ea eb d m':=by
 obtain ⟨d2,o2,f2,k2⟩:=h2
 refine ⟨d2,o2,?_,fun k h=> ?_⟩
 ·refine ⟨f2.os.trans ho.os,f2.tape.trans ho.tape,f2.output.trans ho.output,Nat.le_trans ho.size f2.size,fun k hl hn=> ?_⟩
  rw [f2.block k (Nat.lt_of_lt_of_le hl ho.size) (fun e=> ?_),ho.block k hl hn]
  rcases hk k e with h | h
  ·exact hn h
  ·omega
 ·rcases k2 k h with h | h
  ·exact hk k h
  ·exact .inr (Nat.le_trans ho.size h)
theorem DTTurn.a {e:En} (h:DTk w B mb ea eb d m) (ht:DTurn w w' B ea d.pa.vm d.pa.vc d.pa.sb d.pa.cb d.pa.us e):DTTurn w w' B mb ea eb d {m with a:=e}:=by
 obtain ⟨vm,vc,us,md,h1,h2,h3⟩:=ht
 have ho:∀k,ze6 eb d.pb k→¬ze6 ea d.pa k:=fun k hk hn=>h.ab k hn hk
 have hl:∀k,Lk.own mb d.v k→¬ze6 ea d.pa k:=fun k hk hn=>h.al k hn hk
 have hm:¬ze6 ea d.pa mb:=hl mb (.inl rfl)
 have hlt:mb<w.heap.size:=h.l.lt (.inl rfl)
 have nw:∀k,ze6 ea ⟨vm,vc,d.pa.sb,d.pa.cb,us,md⟩ k→ze6 ea d.pa k∨w.heap.size≤k:=h3
 refine ⟨{d with pa:=⟨vm,vc,d.pa.sb,d.pa.cb,us,md⟩},⟨h1,h.b.off h2 ho,h2.cell h.c0 hm,h2.cell h.c1 hm,zCl (h.l.off h2 hl),fun k hk hk2=> ?_,fun k hk hk2=> ?_,h.bl⟩,h2.mono fun k _ hk=> .inl hk,fun k hk=> ?_⟩
 ·rcases nw k hk with e' | e'
  ·exact h.ab k e' hk2
  ·have:=(h.b.own_lt hk2).2;omega
 ·rcases nw k hk with e' | e'
  ·exact h.al k e' hk2
  ·have:=h.l.lt hk2;omega
 ·rcases hk with hk | hk | hk
  ·exact (nw k hk).imp .inl id
  ·exact .inl (.inr (.inl hk))
  ·exact .inl (.inr (.inr hk))
theorem DTTurn.b {e:En} (h:DTk w B mb ea eb d m) (ht:DTurn w w' B eb d.pb.vm d.pb.vc d.pb.sb d.pb.cb d.pb.us e):DTTurn w w' B mb ea eb d {m with b:=e}:=by
 obtain ⟨vm,vc,us,md,h1,h2,h3⟩:=ht
 have ho:∀k,ze6 ea d.pa k→¬ze6 eb d.pb k:=fun k hk hn=>h.ab k hk hn
 have hl:∀k,Lk.own mb d.v k→¬ze6 eb d.pb k:=fun k hk hn=>h.bl k hn hk
 have hm:¬ze6 eb d.pb mb:=hl mb (.inl rfl)
 have hlt:mb<w.heap.size:=h.l.lt (.inl rfl)
 have nw:∀k,ze6 eb ⟨vm,vc,d.pb.sb,d.pb.cb,us,md⟩ k→ze6 eb d.pb k∨w.heap.size≤k:=h3
 refine ⟨{d with pb:=⟨vm,vc,d.pb.sb,d.pb.cb,us,md⟩},⟨h.a.off h2 ho,h1,h2.cell h.c0 hm,h2.cell h.c1 hm,zCl (h.l.off h2 hl),fun k hk hk2=> ?_,h.al,fun k hk hk2=> ?_⟩,h2.mono fun k _ hk=> .inr (.inl hk),fun k hk=> ?_⟩
 ·rcases nw k hk2 with e' | e'
  ·exact h.ab k hk e'
  ·have:=(h.a.own_lt hk).2;omega
 ·rcases nw k hk with e' | e'
  ·exact h.bl k e' hk2
  ·have:=h.l.lt hk2;omega
 ·rcases hk with hk | hk | hk
  ·exact .inl (.inl hk)
  ·exact (nw k hk).imp (fun e=> .inr (.inl e)) id
  ·exact .inl (.inr (.inr hk))
theorem DTTurn.l {ls:List Lk.LR} (h:DTk w B mb ea eb d m) (ht:Lk.Turn (fun i=>w.cell? ⟨mb,i,none⟩) w w' 52 2 B mb d.v ls):DTTurn w w' B mb ea eb d {m with ls:=ls}:=by
 obtain ⟨v,h1,h2,h3⟩:=ht
 have nw:∀k,Lk.own mb v k→Lk.own mb d.v k∨w.heap.size≤k:=fun k hk=>by
  rcases hk with e | e
  ·exact .inl (.inl e)
  ·exact (h3 k e).imp .inr id
 refine ⟨{d with v:=v},⟨h.a.off h2 (fun k hk hn=>h.al k hk hn),h.b.off h2 (fun k hk hn=>h.bl k hk hn),(h1.rs 0 (by decide)).trans h.c0,(h1.rs 1 (by decide)).trans h.c1,zCl h1,h.ab,fun k hk hk2=> ?_,fun k hk hk2=> ?_⟩,h2.mono fun k _ hk=> .inr (.inr hk),fun k hk=> ?_⟩
 ·rcases nw k hk2 with e | e
  ·exact h.al k hk e
  ·have:=(h.a.own_lt hk).2;omega
 ·rcases nw k hk2 with e | e
  ·exact h.bl k hk e
  ·have:=(h.b.own_lt hk).2;omega
 ·rcases hk with hk | hk | hk
  ·exact .inl (.inl hk)
  ·exact .inl (.inr (.inl hk))
  ·exact (nw k hk).imp (fun e=> .inr (.inr e)) id
end
theorem zeq {w:World} {B mb ea eb:Nat} {d:Dv} {m:Tt} (h:DTk w B mb ea eb d m) (i:Int):Calls Tryz.prog 20 #[.pointer (some ⟨mb,0,none⟩),.int .i64 i] w fun e w'=>e= .returned (.tuple #[.agg #[.int .i64 (Lk.zgu m.ls i).1,.string (Lk.zgu m.ls i).2],.int .i64 (Lk.zik m.ls i)])∧DTTurn w w' B mb ea eb d (zd0 m i):=
 (Lk.ztm h.l i).mono fun e w' ⟨a,b⟩=>⟨a,DTTurn.l h b⟩
theorem zls {w:World} {B mb ea eb:Nat} {d:Dv} {m:Tt} (h:DTk w B mb ea eb d m) (i:Int):Calls Tryz.prog 21 #[.pointer (some ⟨mb,0,none⟩),.int .i64 i] w fun e w'=>e= .returned (.int .i64 (Lk.twF m.ls i))∧DTTurn w w' B mb ea eb d (zeu m i):=
 (Lk.zw6 h.l i).mono fun e w' ⟨a,b⟩=>⟨a,DTTurn.l h b⟩
theorem zvx (mb:Nat) (who:Int) (w:World) (hw:Lk.endB who=false):Calls Tryz.prog 18 #[.pointer (some ⟨mb,0,none⟩),.int .i64 who] w fun e w'=>e= .returned (.int .i64 1)∧w'=w:=by
 have h1:=of_decide_eq_false hw
 have h2:(who !=0)=true:=by simpa using fun e=>h1 (.inl e)
 have h3:(who !=1)=true:=by simpa using fun e=>h1 (.inr e)
 clear hw h1
 go_enter Tryz.func18,Tryz.ntmps18
 go_wp2_with fail
 go_ret
 exact ⟨rfl,rfl⟩
theorem zoh {w:World} {B mb ea eb:Nat} {d:Dv} {m:Tt} (h:DTk w B mb ea eb d m) (hf:40≤m.ls.length):Calls Tryz.prog 18 #[.pointer (some ⟨mb,0,none⟩),.int .i64 0] w fun e w'=>e= .returned (.int .i64 4)∧w'=w:=by
 obtain ⟨a,c,hv⟩:=h.l.shape
 have c2:=h.l.c
 rw [hv] at c2
 have hf':(40:Int)≤(m.ls.length:Int):=by omega
 clear h hf hv
 generalize m.ls.length=n at c2 hf'
 go_enter Tryz.func18,Tryz.ntmps18
 go_wp2_with fail
 go_ret
 exact ⟨rfl,rfl⟩
theorem zqi {w:World} {B mb ea eb:Nat} {d:Dv} {m:Tt} (h:DTk w B mb ea eb d m) (hf:m.ls.length<40) (hm:zcb m.a=0):Calls Tryz.prog 18 #[.pointer (some ⟨mb,0,none⟩),.int .i64 0] w fun e w'=>e= .returned (.int .i64 0)∧DTTurn w w' B mb ea eb d {m with a:=zbn m.a,ls:=m.ls++ [(1,zbj m.a)]}:=by
 have HH:Hid (DTk w B mb ea eb d m):=h
 obtain ⟨a,c,hv⟩:=h.l.shape
 have c2:=h.l.c
 rw [hv] at c2
 have c0:=h.c0
 have hf':¬(40:Int)≤(m.ls.length:Int):=by omega
 have HM:=zi3 h.a hm
 have HF:Hid (m.ls.length<40):=hf
 have hbs:=zdz hm
 have HI:Hid (Lk.Inv (m.ls++ [((1:Int),zbj m.a)])):=h.l.inv.add rfl hf hbs
 obtain ⟨i0,hi0,hz0,hz1,hz2⟩:=info_parts Lk.zzn
 clear h hf hv hm hbs
 generalize zbj m.a=bs at HM HI ⊢
 generalize hn:m.ls.length=n at c2 hf'
 have HN:Hid (m.ls.length=n):=hn
 clear hn
 go_enter Tryz.func18,Tryz.ntmps18
 go_wp2_with fail
 refine HM.mono ?_
 rintro e w1 ⟨rfl,ht1⟩
 obtain ⟨d1,h1,f1,k1⟩:=DTTurn.a HH.out ht1
 obtain ⟨la1,lc1,hv1⟩:=h1.l.shape
 have c21:=h1.l.c
 have hv1':d1.v= .slice la1 n lc1:=by rw [←HN.out];exact hv1
 rw [hv1'] at c21
 clear c2 c0 HM hv1 ht1
 have hb2:Below w1.heap.size w1 (w1.alloc (.cells #[.int .i64 1,.string bs] 52)):=(Below.refl _ _).alloc (Nat.le_refl _) _
 have hL2:=h1.l.below hb2
 have hrow:=hL2.row
 rw [hv1'] at hrow
 have hrow':(w1.alloc (.cells #[.int .i64 1,.string bs] 52)).ownsRow B 52 2 (.slice la1 n lc1) n (Lk.flat m.ls):=by rw [←HN.out] at hrow ⊢;exact hrow
 have h40:=HF.out
 rw [HN.out] at h40
 go_wp2_with (at_builtin;refine wpList_append_own_at _ rfl (.tmp 29) (.tmp 34) 44 rfl B 52 i0 _ 2 24 Tryz.underlying44 hi0 hz0 hz1 hz2 rfl (by decide) _ _ (Lk.flat m.ls) rfl hrow' ⟨w1.heap.size,0,none⟩ 1 1 (Lk.flat [(1,bs)]) rfl rfl (Lk.zdp w1 _ _ _) (fun u hu=>Lk.zc6 u hu) (by unfold maxLen;omega) (by omega) hL2.le ?_;intro v' w3 ho3 hg3 hq3 hl3;clear hq3;obtain ⟨g3,cap3,rfl⟩:=Lk.zck ho3 (by omega);have og:=Off.of_grown (K:=fun k=>d1.v.ownBlock=some k) hg3 (fun k e=>by rw [hv1'];exact e);have d2:=og.cell hL2.c (fun e=>hL2.nv mb e rfl);have df:=(og.frozen (p:=⟨mb,2,none⟩) (hL2.lt (.inl rfl)) (fun e=>hL2.nv mb e rfl)).trans hL2.f)
 go_ret
 have hnew:∀j,(Value.slice (some ⟨g3,0,none⟩) (n+1) cap3).ownBlock=some j→d1.v.ownBlock=some j∨w1.heap.size≤j:=fun j hj=>by
  rcases hl3 with e | e
  ·left;rw [hv1'];exact e.symm.trans hj
  ·right
   have e2:j=(w1.alloc (.cells #[.int .i64 1,.string bs] 52)).heap.size:=Option.some.inj (hj.symm.trans e)
   have:=hb2.size
   omega
 have ow:Off (fun j=>d1.v.ownBlock=some j) w1 w3:=(Off.of_below hb2).trans og
 have LSL:(m.ls++ [((1:Int),bs)]).length=n+1:=by rw [←HN.out];simp
 have ht:Lk.Turn (fun i=>w1.cell? ⟨mb,i,none⟩) w1 (w3.setCell ⟨mb,2,none⟩ (.slice (some ⟨g3,0,none⟩) (n+1) cap3)) 52 2 B mb d1.v (m.ls++ [(1,bs)]):=
  ⟨_,h1.l.put ow (v':= .slice (some ⟨g3,0,none⟩) (n+1) cap3) (by rw [LSL,Lk.zah];exact ho3) hnew HI.out,(ow.mono (fun j _ e=> .inr e)).setCell (.inl rfl) _,hnew⟩
 exact ⟨rfl,DTTurn.trans h1 f1 k1 (DTTurn.l h1 ht)⟩
theorem zm8 {w:World} {B mb ea eb:Nat} {d:Dv} {m:Tt} (h:DTk w B mb ea eb d m) (hf:40≤m.ls.length):Calls Tryz.prog 18 #[.pointer (some ⟨mb,0,none⟩),.int .i64 1] w fun e w'=>e= .returned (.int .i64 4)∧w'=w:=by
 obtain ⟨a,c,hv⟩:=h.l.shape
 have c2:=h.l.c
 rw [hv] at c2
 have hf':(40:Int)≤(m.ls.length:Int):=by omega
 clear h hf hv
 generalize m.ls.length=n at c2 hf'
 go_enter Tryz.func18,Tryz.ntmps18
 go_wp2_with fail
 go_ret
 exact ⟨rfl,rfl⟩
theorem zqy {w:World} {B mb ea eb:Nat} {d:Dv} {m:Tt} (h:DTk w B mb ea eb d m) (hf:m.ls.length<40) (hm:zcb m.b=0):Calls Tryz.prog 18 #[.pointer (some ⟨mb,0,none⟩),.int .i64 1] w fun e w'=>e= .returned (.int .i64 0)∧DTTurn w w' B mb ea eb d {m with b:=zbn m.b,ls:=m.ls++ [(0,zbj m.b)]}:=by
 have HH:Hid (DTk w B mb ea eb d m):=h
 obtain ⟨a,c,hv⟩:=h.l.shape
 have c2:=h.l.c
 rw [hv] at c2
 have c1:=h.c1
 have hf':¬(40:Int)≤(m.ls.length:Int):=by omega
 have HM:=zi3 h.b hm
 have HF:Hid (m.ls.length<40):=hf
 have hbs:=zdz hm
 have HI:Hid (Lk.Inv (m.ls++ [((0:Int),zbj m.b)])):=h.l.inv.add rfl hf hbs
 obtain ⟨i0,hi0,hz0,hz1,hz2⟩:=info_parts Lk.zzn
 clear h hf hv hm hbs
 generalize zbj m.b=bs at HM HI ⊢
 generalize hn:m.ls.length=n at c2 hf'
 have HN:Hid (m.ls.length=n):=hn
 clear hn
 go_enter Tryz.func18,Tryz.ntmps18
 go_wp2_with fail
 refine HM.mono ?_
 rintro e w1 ⟨rfl,ht1⟩
 obtain ⟨d1,h1,f1,k1⟩:=DTTurn.b HH.out ht1
 obtain ⟨la1,lc1,hv1⟩:=h1.l.shape
 have c21:=h1.l.c
 have hv1':d1.v= .slice la1 n lc1:=by rw [←HN.out];exact hv1
 rw [hv1'] at c21
 clear c2 c1 HM hv1 ht1
 have hb2:Below w1.heap.size w1 (w1.alloc (.cells #[.int .i64 0,.string bs] 52)):=(Below.refl _ _).alloc (Nat.le_refl _) _
 have hL2:=h1.l.below hb2
 have hrow:=hL2.row
 rw [hv1'] at hrow
 have hrow':(w1.alloc (.cells #[.int .i64 0,.string bs] 52)).ownsRow B 52 2 (.slice la1 n lc1) n (Lk.flat m.ls):=by rw [←HN.out] at hrow ⊢;exact hrow
 have h40:=HF.out
 rw [HN.out] at h40
 go_wp2_with (at_builtin;refine wpList_append_own_at _ rfl (.tmp 29) (.tmp 34) 44 rfl B 52 i0 _ 2 24 Tryz.underlying44 hi0 hz0 hz1 hz2 rfl (by decide) _ _ (Lk.flat m.ls) rfl hrow' ⟨w1.heap.size,0,none⟩ 1 1 (Lk.flat [(0,bs)]) rfl rfl (Lk.zdp w1 _ _ _) (fun u hu=>Lk.zc6 u hu) (by unfold maxLen;omega) (by omega) hL2.le ?_;intro v' w3 ho3 hg3 hq3 hl3;clear hq3;obtain ⟨g3,cap3,rfl⟩:=Lk.zck ho3 (by omega);have og:=Off.of_grown (K:=fun k=>d1.v.ownBlock=some k) hg3 (fun k e=>by rw [hv1'];exact e);have d2:=og.cell hL2.c (fun e=>hL2.nv mb e rfl);have df:=(og.frozen (p:=⟨mb,2,none⟩) (hL2.lt (.inl rfl)) (fun e=>hL2.nv mb e rfl)).trans hL2.f)
 go_ret
 have hnew:∀j,(Value.slice (some ⟨g3,0,none⟩) (n+1) cap3).ownBlock=some j→d1.v.ownBlock=some j∨w1.heap.size≤j:=fun j hj=>by
  rcases hl3 with e | e
  ·left;rw [hv1'];exact e.symm.trans hj
  ·right
   have e2:j=(w1.alloc (.cells #[.int .i64 0,.string bs] 52)).heap.size:=Option.some.inj (hj.symm.trans e)
   have:=hb2.size
   omega
 have ow:Off (fun j=>d1.v.ownBlock=some j) w1 w3:=(Off.of_below hb2).trans og
 have LSL:(m.ls++ [((0:Int),bs)]).length=n+1:=by rw [←HN.out];simp
 have ht:Lk.Turn (fun i=>w1.cell? ⟨mb,i,none⟩) w1 (w3.setCell ⟨mb,2,none⟩ (.slice (some ⟨g3,0,none⟩) (n+1) cap3)) 52 2 B mb d1.v (m.ls++ [(0,bs)]):=
  ⟨_,h1.l.put ow (v':= .slice (some ⟨g3,0,none⟩) (n+1) cap3) (by rw [LSL,Lk.zah];exact ho3) hnew HI.out,(ow.mono (fun j _ e=> .inr e)).setCell (.inl rfl) _,hnew⟩
 exact ⟨rfl,DTTurn.trans h1 f1 k1 (DTTurn.l h1 ht)⟩
theorem zoq {w:World} {B mb ea eb:Nat} {d:Dv} {m:Tt} (h:DTk w B mb ea eb d m) (who:Int) (hm:Lk.endB who=true→zcb (m.who who)=0):Calls Tryz.prog 18 #[.pointer (some ⟨mb,0,none⟩),.int .i64 who] w fun e w'=>e= .returned (.int .i64 (zcj m who))∧DTTurn w w' B mb ea eb d (zca m who):=by
 cases hw:Lk.endB who with
 | false=>
  have e1:zcj m who=1:=by unfold zcj;rw [hw,if_neg (by decide)]
  have e2:zca m who=m:=by unfold zca;rw [e1,if_neg (by decide)]
  rw [e1,e2]
  exact (zvx mb who w hw).mono fun ex w' ⟨a,b⟩=>⟨a,by rw [b];exact DTTurn.same h⟩
 | true=>
  have hm:=hm hw
  by_cases hf:40≤m.ls.length
  ·have e1:zcj m who=4:=by unfold zcj;rw [hw,if_pos rfl,if_pos hf]
   have e2:zca m who=m:=by unfold zca;rw [e1,if_neg (by decide)]
   rw [e1,e2]
   rcases zav hw with rfl | rfl
   ·exact (zoh h hf).mono fun ex w' ⟨a,b⟩=>⟨a,by rw [b];exact DTTurn.same h⟩
   ·exact (zm8 h hf).mono fun ex w' ⟨a,b⟩=>⟨a,by rw [b];exact DTTurn.same h⟩
  ·have e1:zcj m who=0:=by unfold zcj;rw [hw,if_pos rfl,if_neg hf]
   have e2:zca m who= {m.set who (zbn (m.who who)) with ls:=m.ls++ [(1-who,zbj (m.who who))]}:=by unfold zca;rw [e1,if_pos rfl]
   rw [e1,e2]
   rcases zav hw with rfl | rfl
   ·exact zqi h (by omega) hm
   ·exact zqy h (by omega) hm
theorem zul {w:World} {B mb ea eb:Nat} {d:Dv} {m:Tt} (h:DTk w B mb ea eb d m) (i:Int) (hi:Lk.onB m.ls i=false):Calls Tryz.prog 19 #[.pointer (some ⟨mb,0,none⟩),.int .i64 i] w fun e w'=>e= .returned (.int .i64 1)∧DTTurn w w' B mb ea eb d m:=by
 have HG:=zeq h i
 rw [Lk.zm3 hi,Lk.zmj hi,show zd0 m i=m by unfold zd0;rw [Lk.zg3 hi]] at HG
 clear h hi
 go_enter Tryz.func19,Tryz.ntmps19
 go_wp2_with (go_at_call 20;refine HG.mono ?_;rintro ex w2 ⟨rfl,ht2⟩)
 go_ret
 exact ⟨rfl,ht2.more ((Below.refl _ _).alloc (Nat.le_refl _) _)⟩
theorem zAg {w:World} {B mb ea eb:Nat} {d:Dv} {m:Tt} (h:DTk w B mb ea eb d m) (p:Nat) (hp:p<m.ls.length) (bs:ByteArray) (ha:Lk.at' m.ls p=(0,bs)) (hnx:zai m.a≤1073741823):Calls Tryz.prog 19 #[.pointer (some ⟨mb,0,none⟩),.int .i64 (p:Int)] w fun e w'=>e= .returned (.int .i64 (zbf m.a bs).1)∧DTTurn w w' B mb ea eb d {m with a:=(zbf m.a bs).2,ls:=Lk.cut1 m.ls p}:=by
 have hz:=(h.l.inv.ok _ (Lk.at_mem hp)).2
 rw [ha] at hz
 have hon:Lk.onB m.ls (p:Int)=true:=Lk.zns hp
 have HG:=zeq h (p:Int)
 rw [Lk.zhb hon,Lk.zg9 hon,Int.toNat_natCast,ha,show zd0 m (p:Int)= {m with ls:=Lk.cut1 m.ls p} by unfold zd0;rw [Lk.zeo hon,Int.toNat_natCast]] at HG
 have HK:Hid (∀w2,DTTurn w w2 B mb ea eb d {m with ls:=Lk.cut1 m.ls p}→∀X,Below w2.heap.size w2 X→X.cell? ⟨mb,0,none⟩=some (.pointer (some ⟨ea,0,none⟩))∧Calls Tryz.prog 40 #[.pointer (some ⟨ea,0,none⟩),.string bs] X fun ex w'=>ex= .returned (.int .i64 (zbf m.a bs).1)∧DTTurn w w' B mb ea eb d {m with a:=(zbf m.a bs).2,ls:=Lk.cut1 m.ls p}):=by
  show∀w2,_→_
  intro w2 ht X hX
  obtain ⟨d2,o2,f2,k2⟩:=ht.more hX
  refine ⟨o2.c0,(zjj o2.a bs (by simp only at hz;omega) hnx).mono fun ex w' ⟨a,b⟩=>⟨a,DTTurn.trans o2 f2 k2 (DTTurn.a o2 b)⟩⟩
 clear h hp ha hz hon hnx
 generalize (zbf m.a bs).1=er at HK ⊢
 generalize ({m with a:=(zbf m.a bs).2,ls:=Lk.cut1 m.ls p}:Tt)=m2 at HK ⊢
 generalize ({m with ls:=Lk.cut1 m.ls p}:Tt)=m1 at HK HG
 go_enter Tryz.func19,Tryz.ntmps19
 go_upto_region 4 with (go_at_call 20;refine HG.mono ?_;rintro ex w2 ⟨rfl,ht2⟩;clear HG)
 have hbX:Below w2.heap.size w2 (w2.alloc (.cells #[.int .i64 0,.string bs] 52)).drew:=((Below.refl _ _).alloc (Nat.le_refl _) _).drew
 obtain ⟨cp,HT⟩:=HK.out w2 ht2 _ hbX
 have x0:(w2.alloc (.cells #[.int .i64 0,.string bs] 52)).drew.cell? ⟨w2.heap.size,0,none⟩=some (.int .i64 0):=by show (w2.alloc _).cell? _=_;simp
 have x1:(w2.alloc (.cells #[.int .i64 0,.string bs] 52)).drew.cell? ⟨w2.heap.size,1,none⟩=some (.string bs):=by show (w2.alloc _).cell? _=_;simp
 clear HK ht2 hbX
 generalize w2.heap.size=X0 at x0 x1 ⊢
 go_region_with (go_at_call 40;refine HT.mono ?_;rintro ex w3 ⟨rfl,ht3⟩)
 all_goals (try go_wp2_with fail)
 all_goals go_ret
 all_goals exact ⟨rfl,ht3⟩
theorem zz9 {w:World} {B mb ea eb:Nat} {d:Dv} {m:Tt} (h:DTk w B mb ea eb d m) (p:Nat) (hp:p<m.ls.length) (bs:ByteArray) (ha:Lk.at' m.ls p=(1,bs)) (hnx:zai m.b≤1073741823):Calls Tryz.prog 19 #[.pointer (some ⟨mb,0,none⟩),.int .i64 (p:Int)] w fun e w'=>e= .returned (.int .i64 (zbf m.b bs).1)∧DTTurn w w' B mb ea eb d {m with b:=(zbf m.b bs).2,ls:=Lk.cut1 m.ls p}:=by
 have hz:=(h.l.inv.ok _ (Lk.at_mem hp)).2
 rw [ha] at hz
 have hon:Lk.onB m.ls (p:Int)=true:=Lk.zns hp
 have HG:=zeq h (p:Int)
 rw [Lk.zhb hon,Lk.zg9 hon,Int.toNat_natCast,ha,show zd0 m (p:Int)= {m with ls:=Lk.cut1 m.ls p} by unfold zd0;rw [Lk.zeo hon,Int.toNat_natCast]] at HG
 have HK:Hid (∀w2,DTTurn w w2 B mb ea eb d {m with ls:=Lk.cut1 m.ls p}→∀X,Below w2.heap.size w2 X→X.cell? ⟨mb,1,none⟩=some (.pointer (some ⟨eb,0,none⟩))∧Calls Tryz.prog 40 #[.pointer (some ⟨eb,0,none⟩),.string bs] X fun ex w'=>ex= .returned (.int .i64 (zbf m.b bs).1)∧DTTurn w w' B mb ea eb d {m with b:=(zbf m.b bs).2,ls:=Lk.cut1 m.ls p}):=by
  show∀w2,_→_
  intro w2 ht X hX
  obtain ⟨d2,o2,f2,k2⟩:=ht.more hX
  refine ⟨o2.c1,(zjj o2.b bs (by simp only at hz;omega) hnx).mono fun ex w' ⟨a,b⟩=>⟨a,DTTurn.trans o2 f2 k2 (DTTurn.b o2 b)⟩⟩
 clear h hp ha hz hon hnx
 generalize (zbf m.b bs).1=er at HK ⊢
 generalize ({m with b:=(zbf m.b bs).2,ls:=Lk.cut1 m.ls p}:Tt)=m2 at HK ⊢
 generalize ({m with ls:=Lk.cut1 m.ls p}:Tt)=m1 at HK HG
 go_enter Tryz.func19,Tryz.ntmps19
 go_upto_region 4 with (go_at_call 20;refine HG.mono ?_;rintro ex w2 ⟨rfl,ht2⟩;clear HG)
 have hbX:Below w2.heap.size w2 (w2.alloc (.cells #[.int .i64 1,.string bs] 52)).drew:=((Below.refl _ _).alloc (Nat.le_refl _) _).drew
 obtain ⟨cp,HT⟩:=HK.out w2 ht2 _ hbX
 have x0:(w2.alloc (.cells #[.int .i64 1,.string bs] 52)).drew.cell? ⟨w2.heap.size,0,none⟩=some (.int .i64 1):=by show (w2.alloc _).cell? _=_;simp
 have x1:(w2.alloc (.cells #[.int .i64 1,.string bs] 52)).drew.cell? ⟨w2.heap.size,1,none⟩=some (.string bs):=by show (w2.alloc _).cell? _=_;simp
 clear HK ht2 hbX
 generalize w2.heap.size=X0 at x0 x1 ⊢
 go_region_with (go_at_call 40;refine HT.mono ?_;rintro ex w3 ⟨rfl,ht3⟩)
 all_goals (try go_wp2_with fail)
 all_goals go_ret
 all_goals exact ⟨rfl,ht3⟩
theorem zo4 {w:World} {B mb ea eb:Nat} {d:Dv} {m:Tt} (h:DTk w B mb ea eb d m) (i:Int) (hnx:∀who,Lk.endB who=true→zai (m.who who)≤1073741823):Calls Tryz.prog 19 #[.pointer (some ⟨mb,0,none⟩),.int .i64 i] w fun e w'=>e= .returned (.int .i64 (zfy m i))∧DTTurn w w' B mb ea eb d (zdx m i):=by
 cases hi:Lk.onB m.ls i with
 | false=>
  unfold zfy zdx
  rw [hi,if_neg (by decide),if_neg (by decide)]
  exact zul h i hi
 | true=>
  obtain ⟨p,rfl,hp⟩:=Lk.ze2 hi
  unfold zfy zdx
  rw [hi,if_pos rfl,if_pos rfl,Int.toNat_natCast]
  have hok:=(h.l.inv.ok _ (Lk.at_mem hp)).1
  have ha:Lk.at' m.ls p=((Lk.at' m.ls p).1,(Lk.at' m.ls p).2):=rfl
  rcases zav hok with e | e
  ·rw [e] at ha ⊢
   exact zAg h p hp _ ha (hnx 0 rfl)
  ·rw [e] at ha ⊢
   exact zz9 h p hp _ ha (hnx 1 rfl)
structure DN0 (w wr:World) (mb:Nat):Prop where
 bel:Below w.heap.size w wr
 ge:w.heap.size≤mb
 lt:mb<wr.heap.size
 c0:wr.cell? ⟨mb,0,none⟩=some (.pointer none)
 c1:wr.cell? ⟨mb,1,none⟩=some (.pointer none)
 c2:wr.cell? ⟨mb,2,none⟩=some (.slice none 0 0)
 fz:∀i,wr.frozen? ⟨mb,i,none⟩=false
structure DN1 (n:Int) (w wr:World) (mb ea sa ca:Nat):Prop where
 bel:Below w.heap.size w wr
 ge:w.heap.size≤mb
 lt:mb<wr.heap.size
 a:DO wr w.heap.size ea (.slice none 0 0) (.slice none 0 0) sa ca [] [] (newE n)
 ap:∀k,OwnD ea (.slice none 0 0) (.slice none 0 0) sa ca [] k→k≠mb
 c0:wr.cell? ⟨mb,0,none⟩=some (.pointer (some ⟨ea,0,none⟩))
 c1:wr.cell? ⟨mb,1,none⟩=some (.pointer none)
 c2:wr.cell? ⟨mb,2,none⟩=some (.slice none 0 0)
 fz:∀i,wr.frozen? ⟨mb,i,none⟩=false
theorem zc7 {w w':World} {B b i:Nat} {v:Value} (hb:Below B w w') (hlt:b<B) (h:w.cell? ⟨b,i,none⟩=some v):w'.cell? ⟨b,i,none⟩=some v:=(hb.cell (p:=⟨b,i,none⟩) hlt).trans h
theorem DN0.drew {w wr:World} {mb:Nat} (h:DN0 w wr mb):DN0 w wr.drew mb:=⟨h.bel.drew,h.ge,h.lt,h.c0,h.c1,h.c2,h.fz⟩
theorem DN0.one {n:Int} {w wr w1:World} {mb ea sa ca:Nat} (h:DN0 w wr mb) (ho:DO w1 wr.heap.size ea (.slice none 0 0) (.slice none 0 0) sa ca [] [] (newE n)) (hb:Below wr.heap.size wr w1):DN1 n w (w1.setCell ⟨mb,0,none⟩ (.pointer (some ⟨ea,0,none⟩))) mb ea sa ca:=by
 have hf:Off (fun k=>k=mb) w1 (w1.setCell ⟨mb,0,none⟩ (.pointer (some ⟨ea,0,none⟩))):=(Off.refl _ _).setCell (K:=fun k=>k=mb) (a:=⟨mb,0,none⟩) rfl _
 have hn:∀k,OwnD ea (.slice none 0 0) (.slice none 0 0) sa ca [] k→k≠mb:=fun k hk e=>by have:=(ho.own_lt hk).1;have:=h.lt;omega
 have hB:Below w.heap.size w w1:=h.bel.trans (hb.mono h.bel.size)
 refine ⟨hB.trans (hf.below (fun k hk=>by rw [hk];exact h.ge) hB.size),h.ge,Nat.lt_of_lt_of_le (Nat.lt_of_lt_of_le h.lt hb.size) hf.size,(ho.off hf hn).base h.bel.size,hn,World.cell?_setCell_same _ _ _ (zc7 hb h.lt h.c0),?_,?_,fun i=> ?_⟩
 ·rw [World.cell?_setCell_other _ _ _ _ (by simp)];exact zc7 hb h.lt h.c1
 ·rw [World.cell?_setCell_other _ _ _ _ (by simp)];exact zc7 hb h.lt h.c2
 ·rw [World.frozen?_setCell,World.frozen?_of_block (hb.block mb h.lt)];exact h.fz i
theorem DN1.drew {n:Int} {w wr:World} {mb ea sa ca:Nat} (h:DN1 n w wr mb ea sa ca):DN1 n w wr.drew mb ea sa ca:=⟨h.bel.drew,h.ge,h.lt,h.a.below ((Below.refl _ _).drew),h.ap,h.c0,h.c1,h.c2,h.fz⟩
theorem DN1.two {n:Int} {w wr w1:World} {mb ea sa ca eb sb cb:Nat} (h:DN1 n w wr mb ea sa ca) (ho:DO w1 wr.heap.size eb (.slice none 0 0) (.slice none 0 0) sb cb [] [] (newE n)) (hb:Below wr.heap.size wr w1):DTk (w1.setCell ⟨mb,1,none⟩ (.pointer (some ⟨eb,0,none⟩))) w.heap.size mb ea eb ⟨⟨.slice none 0 0,.slice none 0 0,sa,ca,[],[]⟩,⟨.slice none 0 0,.slice none 0 0,sb,cb,[],[]⟩,.slice none 0 0⟩ (newT n)∧Below w.heap.size w (w1.setCell ⟨mb,1,none⟩ (.pointer (some ⟨eb,0,none⟩))):=by
 have hf:Off (fun k=>k=mb) w1 (w1.setCell ⟨mb,1,none⟩ (.pointer (some ⟨eb,0,none⟩))):=(Off.refl _ _).setCell (K:=fun k=>k=mb) (a:=⟨mb,1,none⟩) rfl _
 have hn:∀k,OwnD eb (.slice none 0 0) (.slice none 0 0) sb cb [] k→k≠mb:=fun k hk e=>by have:=(ho.own_lt hk).1;have:=h.lt;omega
 have hB:Below w.heap.size w w1:=h.bel.trans (hb.mono h.bel.size)
 have hl:∀k,Lk.own mb (.slice none 0 0) k→k=mb:=fun k hk=>by
  rcases hk with e | e
  ·exact e
  ·cases e
 refine ⟨⟨(h.a.below hb).off hf h.ap,(ho.off hf hn).base h.bel.size,?_,World.cell?_setCell_same _ _ _ (zc7 hb h.lt h.c1),⟨Lk.Inv.start,?_,?_,World.ownsRow_nil _ _ _ _,h.ge,(fun k hk=>by cases hk),fun _ _=>rfl,fun i=> ?_⟩,fun k hk hk2=> ?_,fun k hk hk2=>h.ap k hk (hl k hk2),fun k hk hk2=>hn k hk (hl k hk2)⟩,hB.trans (hf.below (fun k hk=>by rw [hk];exact h.ge) hB.size)⟩
 ·rw [World.cell?_setCell_other _ _ _ _ (by simp)];exact zc7 hb h.lt h.c0
 ·rw [World.cell?_setCell_other _ _ _ _ (by simp)];exact zc7 hb h.lt h.c2
 ·rw [World.frozen?_setCell,World.frozen?_of_block (hb.block mb h.lt)];exact h.fz 2
 ·rw [World.frozen?_setCell,World.frozen?_of_block (hb.block mb h.lt)];exact h.fz i
 ·have:=(h.a.own_lt hk).2;have:=(ho.own_lt hk2).1;omega
theorem zpo (n:Int) (w:World) (hn:Cx.winB n=true):Calls Tryz.prog 15 #[.int .i64 n] w fun e w'=>∃mb ea eb d,e= .returned (.pointer (some ⟨mb,0,none⟩))∧DTk w' w.heap.size mb ea eb d (newT n)∧Below w.heap.size w w':=by
 have HN:Hid (∀X,Calls Tryz.prog 36 #[.int .i64 n] X fun ex w'=>∃eb sb cb,ex= .returned (.pointer (some ⟨eb,0,none⟩))∧DO w' X.heap.size eb (.slice none 0 0) (.slice none 0 0) sb cb [] [] (newE n)∧Below X.heap.size X w'):=fun X=>zta n X hn
 have hz:∀W:World,(zeroValue 46).run Tryz.prog W= .ok (.agg #[.pointer none,.pointer none,.slice none 0 0]) W:=fun W=>by kernel_rfl
 have h0:DN0 w (w.alloc (.cells #[.pointer none,.pointer none,.slice none 0 0] 46)) w.heap.size:=⟨(Below.refl _ _).alloc (Nat.le_refl _) _,Nat.le_refl _,by simp,by simp,by simp,by simp,fun i=>by simp⟩
 clear hn
 go_enter Tryz.func15,Tryz.ntmps15
 go_upto_region 2 with fail
 clear hz
 generalize w.heap.size=mb at h0 ⊢
 generalize w.alloc (.cells #[.pointer none,.pointer none,.slice none 0 0] 46)=W0 at h0 ⊢
 have hd:=h0.drew
 go_cut [] (fun wx=>∃ea sa ca,DN1 n w wx mb ea sa ca)
 case first=>
  go_region_with (go_at_call 36;refine (HN.out _).mono ?_;rintro ex w1 ⟨ea,sa,ca,rfl,ho1,hb1⟩;have n0:=zc7 hb1 hd.lt hd.c0;have nf:w1.frozen? ⟨mb,0,none⟩=false:=(World.frozen?_of_block (hb1.block mb hd.lt)).trans (hd.fz 0);have hN1:=hd.one ho1 hb1)
  all_goals (try go_wp2_with fail)
  all_goals go_meet
  all_goals exact ⟨_,_,_,by first | exact hN1 | exact hN1.drew⟩
 case rest=>
  clear h0 hd
  obtain ⟨ea,sa,ca,h1⟩:=hcut
  have hd:=h1.drew
  go_upto_region 3 with fail
  go_region_with (go_at_call 36;refine (HN.out _).mono ?_;rintro ex w1 ⟨eb,sb,cb,rfl,ho1,hb1⟩;have n0:=zc7 hb1 hd.lt hd.c1;have nf:w1.frozen? ⟨mb,1,none⟩=false:=(World.frozen?_of_block (hb1.block mb hd.lt)).trans (hd.fz 1);have hN2:=hd.two ho1 hb1)
  all_goals (try go_wp2_with fail)
  all_goals go_ret
  all_goals exact ⟨_,_,_,_,rfl,by first | exact hN2.1 | exact hN2.1.below ((Below.refl _ _).drew),by first | exact hN2.2 | exact hN2.2.drew⟩
end Go.Proofs.YtdnehibcpkjafaaGreatDoor
