/- What TalkPlays needs. -/
import Derived.Test.YtdnehibcpkjafaaGreatDoorHUD
import Derived.Test.YtdnehibcpkjafaaGreatDoorHUQ
import Derived.Test.YtdnehibcpkjafaaGreatDoorHKK
set_option linter.unusedVariables false
set_option linter.unusedSimpArgs false
set_option maxRecDepth 100000
set_option maxHeartbeats 8000000
namespace Go.Proofs.YtdnehibcpkjafaaGreatDoor
open Go.RowKit Go.Lib Go.Sort
def Bo (w wr:World) (tb mb ea eb:Nat) (N:Nat→Prop) (s m:Tt):Prop:=∃u d,TO wr w.heap.size tb u s∧DTk wr w.heap.size mb ea eb d m∧Below w.heap.size w wr∧(∀k,OwnT tb u k→¬zgf mb ea eb d k)∧(∀k,OwnT tb u k→¬N k)∧(∀k,zgf mb ea eb d k→¬N k)∧∀k,N k→w.heap.size≤k∧k<wr.heap.size
section
variable {w wr wx : World} {tb mb ea eb : Nat} {N N' : Nat → Prop} {s m s' m' : Tt}
theorem Bo.pturn {u:Tv} {d:Dv} (hO:TO wr w.heap.size tb u s) (hD:DTk wr w.heap.size mb ea eb d m) (hB:Below w.heap.size w wr) (hA:∀k,OwnT tb u k→¬zgf mb ea eb d k) (hN:∀k,OwnT tb u k→¬N k) (hM:∀k,zgf mb ea eb d k→¬N k) (hn:∀k,N k→w.heap.size≤k∧k<wr.heap.size) (ht:TTurn wr wx w.heap.size tb u s'):Bo w wx tb mb ea eb N s' m∧Off (fun k=>¬N k) wr wx:=by
 obtain ⟨u',h1,h2,h3⟩:=ht
 refine ⟨⟨u',d,h1,hD.off h2 (fun k hk e=>hA k e hk),hB.trans (h2.below (fun k hk=>(hO.own_lt hk).1) hB.size),fun k hk hk2=> ?_,fun k hk hk2=> ?_,hM,fun k hk=>⟨(hn k hk).1,Nat.lt_of_lt_of_le (hn k hk).2 h2.size⟩⟩,h2.mono fun k _ hk=>hN k hk⟩
 ·rcases h3 k hk with e | e
  ·exact hA k e hk2
  ·have:=(hD.own_lt hk2).2;omega
 ·rcases h3 k hk with e | e
  ·exact hN k e hk2
  ·have:=(hn k hk2).2;omega
theorem Bo.dturn {u:Tv} {d:Dv} (hO:TO wr w.heap.size tb u s) (hD:DTk wr w.heap.size mb ea eb d m) (hB:Below w.heap.size w wr) (hA:∀k,OwnT tb u k→¬zgf mb ea eb d k) (hN:∀k,OwnT tb u k→¬N k) (hM:∀k,zgf mb ea eb d k→¬N k) (hn:∀k,N k→w.heap.size≤k∧k<wr.heap.size) (ht:DTTurn wr wx w.heap.size mb ea eb d m'):Bo w wx tb mb ea eb N s m'∧Off (fun k=>¬N k) wr wx:=by
 obtain ⟨d',h1,h2,h3⟩:=ht
 refine ⟨⟨u,d',hO.off h2 (fun k hk e=>hA k hk e),h1,hB.trans (h2.below (fun k hk=>(hD.own_lt hk).1) hB.size),fun k hk hk2=> ?_,hN,fun k hk hk2=> ?_,fun k hk=>⟨(hn k hk).1,Nat.lt_of_lt_of_le (hn k hk).2 h2.size⟩⟩,h2.mono fun k _ hk=>hM k hk⟩
 ·rcases h3 k hk2 with e | e
  ·exact hA k hk e
  ·have:=(hO.own_lt hk).2;omega
 ·rcases h3 k hk with e | e
  ·exact hM k e hk2
  ·have:=(hn k hk2).2;omega
theorem Bo.below (h:Bo w wr tb mb ea eb N s m) (hb:Below wr.heap.size wr wx):Bo w wx tb mb ea eb N s m:=by
 obtain ⟨u,d,h1,h2,h3,h4,h5,h6,h7⟩:=h
 exact ⟨u,d,h1.below hb,h2.below hb,h3.trans (hb.mono h3.size),h4,h5,h6,fun k hk=>⟨(h7 k hk).1,Nat.lt_of_lt_of_le (h7 k hk).2 hb.size⟩⟩
theorem Bo.bel (h:Bo w wr tb mb ea eb N s m):Below w.heap.size w wr:=by
 obtain ⟨u,d,h1,h2,h3,_⟩:=h
 exact h3
theorem Bo.c0 (h:Bo w wr tb mb ea eb N s m):wr.cell? ⟨mb,0,none⟩=some (.pointer (some ⟨ea,0,none⟩)):=by
 obtain ⟨u,d,h1,h2,_⟩:=h
 exact h2.c0
theorem Bo.c1 (h:Bo w wr tb mb ea eb N s m):wr.cell? ⟨mb,1,none⟩=some (.pointer (some ⟨eb,0,none⟩)):=by
 obtain ⟨u,d,h1,h2,_⟩:=h
 exact h2.c1
theorem Bo.c2 (h:Bo w wr tb mb ea eb N s m):∃a c,wr.cell? ⟨mb,2,none⟩=some (.slice a m.ls.length c):=by
 obtain ⟨u,d,h1,h2,_⟩:=h
 obtain ⟨a,c,e⟩:=h2.l.shape
 exact ⟨a,c,by rw [←e];exact h2.l.c⟩
theorem Bo.few (h:Bo w wr tb mb ea eb N s m):s.ls.length≤40∧m.ls.length≤40:=by
 obtain ⟨u,d,h1,h2,_⟩:=h
 exact ⟨h1.il.few,h2.l.inv.few⟩
theorem Bo.set {b:Nat} (h:Bo w wr tb mb ea eb N s m) (hb:N b) (ho:Off (fun k=>k=b) wr wx):Bo w wx tb mb ea eb N s m:=by
 obtain ⟨u,d,h1,h2,h3,h4,h5,h6,h7⟩:=h
 exact ⟨u,d,h1.off ho fun k hk e=>h5 k hk (by rw [e];exact hb),h2.off ho fun k hk e=>h6 k hk (by rw [e];exact hb),h3.trans (ho.below (fun k hk=>by rw [hk];exact (h7 b hb).1) h3.size),h4,h5,h6,fun k hk=>⟨(h7 k hk).1,Nat.lt_of_lt_of_le (h7 k hk).2 ho.size⟩⟩
theorem Bo.none (h:Bo w wr tb mb ea eb N s m):Bo w wr tb mb ea eb (fun _=>False) s m:=by
 obtain ⟨u,d,h1,h2,h3,h4,h5,h6,h7⟩:=h
 exact ⟨u,d,h1,h2,h3,h4,fun _ _ e=>e,fun _ _ e=>e,fun _ e=>e.elim⟩
theorem zAn (h:Bo w wr tb mb ea eb N s m):Calls Tryz.prog 13 #[.pointer (some ⟨tb,0,none⟩)] wr fun e w'=>e= .returned (.int .i64 (s.ls.length:Int))∧w'=wr:=by
 obtain ⟨u,d,h1,_⟩:=h
 exact znt h1
theorem Bo.start {w1 w2 w3:World} {n:Int} {d:Dv} (h1:TO w1 w.heap.size tb nilV (newT n)) (hb1:Below w.heap.size w w1) (hb2:Below w1.heap.size w1 w2) (h3:DTk w3 w2.heap.size mb ea eb d (newT n)) (hb3:Below w2.heap.size w2 w3):Bo w w3 tb mb ea eb (fun _=>False) (newT n) (newT n):=by
 have h2:=h1.below hb2
 have hB2:=hb1.trans (hb2.mono hb1.size)
 exact ⟨nilV,d,h2.below hb3,h3.base hB2.size,hB2.trans (hb3.mono hB2.size),fun k hk hk2=>by have:=(h2.own_lt hk).2;have:=(h3.own_lt hk2).1;omega,fun _ _ e=>e,fun _ _ e=>e,fun _ e=>e.elim⟩
end
structure Pv (w wr:World) (tb mb ea eb vb:Nat) (s m:Tt) (ys:Nat→Int):Prop where
 bo:Bo w wr tb mb ea eb (fun k=>k=vb) s m
 bv:Tri wr vb ys
section
variable {w wr wx : World} {tb mb ea eb vb : Nat} {s m s' m' : Tt} {ys : Nat → Int}
theorem Pv.turn (h:Pv w wr tb mb ea eb vb s m ys) (ht:Bo w wx tb mb ea eb (fun k=>k=vb) s' m'∧Off (fun k=>¬k=vb) wr wx):Pv w wx tb mb ea eb vb s' m' ys:=⟨ht.1,h.bv.off ht.2 (fun e=>e rfl)⟩
theorem Pv.below (h:Pv w wr tb mb ea eb vb s m ys) (hb:Below wr.heap.size wr wx):Pv w wx tb mb ea eb vb s m ys:=⟨h.bo.below hb,h.bv.below hb⟩
theorem Pv.drew (h:Pv w wr tb mb ea eb vb s m ys):Pv w wr.drew tb mb ea eb vb s m ys:=h.below (Below.refl _ _).drew
theorem Pv.bel (h:Pv w wr tb mb ea eb vb s m ys):Below w.heap.size w wr:=h.bo.bel
theorem Pv.new {N:Nat→Prop} (h:Bo w wr tb mb ea eb N s m):Pv w (wr.alloc (.cells #[.int .i64 0,.int .i64 0,.int .i64 0] 34)) tb mb ea eb wr.heap.size s m (fun _=>0):=by
 have hb:Below wr.heap.size wr (wr.alloc (.cells #[.int .i64 0,.int .i64 0,.int .i64 0] 34)):=(Below.refl _ _).alloc (Nat.le_refl _) _
 obtain ⟨u,d,h1,h2,h3,h4,h5,h6,h7⟩:=h
 exact ⟨⟨u,d,h1.below hb,h2.below hb,h3.trans (hb.mono h3.size),h4,fun k hk e=>by have:=(h1.own_lt hk).2;omega,fun k hk e=>by have:=(h2.own_lt hk).2;omega,fun k hk=>by rw [hk];exact ⟨h3.size,by simp⟩⟩,Tri.new wr⟩
theorem Pv.set (h:Pv w wr tb mb ea eb vb s m ys) {j:Nat} (hj:j<3) (z:Int):Pv w (wr.setCell ⟨vb,j,none⟩ (.int .i64 z)) tb mb ea eb vb s m (upd ys j z):=by
 have ho:Off (fun k=>k=vb) wr (wr.setCell ⟨vb,j,none⟩ (.int .i64 z)):=(Off.refl _ _).setCell (K:=fun k=>k=vb) (a:=⟨vb,j,none⟩) rfl _
 exact ⟨h.bo.set rfl ho,h.bv.set hj z⟩
theorem zn1 {B eb sb cb:Nat} {vm vc:Value} {us:List Value} {md:List (List Pc)} {e:En} (h:DO wr B eb vm vc sb cb us md e) (n:Int) (hr:0≤n→readF e n=0):Calls Tryz.prog 17 #[.pointer (some ⟨eb,0,none⟩),.int .i64 n] wr fun ex w'=>ex= .returned (.tuple #[.string (zdc e n),.int .i64 (readF e n)])∧DTurn wr w' B eb vm vc sb cb us (zbg e n):=by
 by_cases h0:n<0
 ·have e1:readF e n=1:=if_pos h0
  have e2:zdc e n=nilB:=if_neg (by rw [e1];decide)
  have e3:zbg e n=e:=if_neg (by rw [e1];decide)
  rw [e1,e2,e3]
  exact (zsq eb n h0).mono fun ex w' ⟨a,b⟩=>⟨a,by rw [←b];exact DTurn.same h⟩
 ·have e1:=hr (by omega)
  rw [e1]
  exact ztt h n (by omega) e1
theorem zmc (h:Pv w wr tb mb ea eb vb s m ys) (who:Int) (b:ByteArray) (hl:b.size≤140737488351232):Calls Tryz.prog 7 #[.pointer (some ⟨tb,0,none⟩),.int .i64 who,.string b] wr fun e w'=>e= .returned (errV (zde s who b))∧Pv w w' tb mb ea eb vb (zci s who b) (m) ys:=by
 have h0:=h
 obtain ⟨⟨u,d,hO,hD,hB,hA,hN,hM,hn⟩,hX⟩:=h
 exact (zo5 hO who b hl).mono fun e w' ⟨a,b⟩=>⟨a,Pv.turn h0 (Bo.pturn hO hD hB hA hN hM hn (b))⟩
theorem zqh (h:Pv w wr tb mb ea eb vb s m ys) (who n:Int):Calls Tryz.prog 10 #[.pointer (some ⟨tb,0,none⟩),.int .i64 who,.int .i64 n] wr fun e w'=>e= .returned (.tuple #[.string (zfx s who n),errV (zfk s who n)])∧Pv w w' tb mb ea eb vb (zdg s who n) (m) ys:=by
 have h0:=h
 obtain ⟨⟨u,d,hO,hD,hB,hA,hN,hM,hn⟩,hX⟩:=h
 exact (zpb hO who n).mono fun e w' ⟨a,b⟩=>⟨a,Pv.turn h0 (Bo.pturn hO hD hB hA hN hM hn (b))⟩
theorem zwu (h:Pv w wr tb mb ea eb vb s m ys) (who:Int) (hm:Lk.endB who=true→zcb (s.who who)=0) (hV:V.Forms w∧Cnts w):Calls Tryz.prog 8 #[.pointer (some ⟨tb,0,none⟩),.int .i64 who] wr fun e w'=>e= .returned (errV (zcj s who))∧Pv w w' tb mb ea eb vb (zca s who) (m) ys:=by
 have h0:=h
 obtain ⟨⟨u,d,hO,hD,hB,hA,hN,hM,hn⟩,hX⟩:=h
 exact (zpa hO who hm (hV.1.below hB) (hV.2.below hB)).mono fun e w' ⟨a,b⟩=>⟨a,Pv.turn h0 (Bo.pturn hO hD hB hA hN hM hn (b))⟩
theorem zvd (h:Pv w wr tb mb ea eb vb s m ys) (i:Int) (hV:V.Forms w∧Cnts w):Calls Tryz.prog 9 #[.pointer (some ⟨tb,0,none⟩),.int .i64 i] wr fun e w'=>e= .returned (errV (zfy s i))∧Pv w w' tb mb ea eb vb (zdx s i) (m) ys:=by
 have h0:=h
 obtain ⟨⟨u,d,hO,hD,hB,hA,hN,hM,hn⟩,hX⟩:=h
 exact (zpw hO hV hB i).mono fun e w' ⟨a,b⟩=>⟨a,Pv.turn h0 (Bo.pturn hO hD hB hA hN hM hn (b))⟩
theorem zD3 (h:Pv w wr tb mb ea eb vb s m ys) (i:Int):Calls Tryz.prog 11 #[.pointer (some ⟨tb,0,none⟩),.int .i64 i] wr fun e w'=>e= .returned (errV (Lk.zik s.ls i))∧Pv w w' tb mb ea eb vb (zd0 s i) (m) ys:=by
 have h0:=h
 obtain ⟨⟨u,d,hO,hD,hB,hA,hN,hM,hn⟩,hX⟩:=h
 exact (zpl hO i).mono fun e w' ⟨a,b⟩=>⟨a,Pv.turn h0 (Bo.pturn hO hD hB hA hN hM hn (b))⟩
theorem zAi (h:Pv w wr tb mb ea eb vb s m ys) (i:Int):Calls Tryz.prog 12 #[.pointer (some ⟨tb,0,none⟩),.int .i64 i] wr fun e w'=>e= .returned (errV (Lk.twF s.ls i))∧Pv w w' tb mb ea eb vb (zeu s i) (m) ys:=by
 have h0:=h
 obtain ⟨⟨u,d,hO,hD,hB,hA,hN,hM,hn⟩,hX⟩:=h
 exact (zne hO i).mono fun e w' ⟨a,b⟩=>⟨a,Pv.turn h0 (Bo.pturn hO hD hB hA hN hM hn (b))⟩
theorem zsd (h:Pv w wr tb mb ea eb vb s m ys) (who:Int) (hm:Lk.endB who=true→zcb (m.who who)=0):Calls Tryz.prog 18 #[.pointer (some ⟨mb,0,none⟩),.int .i64 who] wr fun e w'=>e= .returned (.int .i64 (zcj m who))∧Pv w w' tb mb ea eb vb (s) (zca m who) ys:=by
 have h0:=h
 obtain ⟨⟨u,d,hO,hD,hB,hA,hN,hM,hn⟩,hX⟩:=h
 exact (zoq hD who hm).mono fun e w' ⟨a,b⟩=>⟨a,Pv.turn h0 (Bo.dturn hO hD hB hA hN hM hn (b))⟩
theorem zrf (h:Pv w wr tb mb ea eb vb s m ys) (i:Int) (hx:∀who,Lk.endB who=true→zai (m.who who)≤1073741823):Calls Tryz.prog 19 #[.pointer (some ⟨mb,0,none⟩),.int .i64 i] wr fun e w'=>e= .returned (.int .i64 (zfy m i))∧Pv w w' tb mb ea eb vb (s) (zdx m i) ys:=by
 have h0:=h
 obtain ⟨⟨u,d,hO,hD,hB,hA,hN,hM,hn⟩,hX⟩:=h
 exact (zo4 hD i hx).mono fun e w' ⟨a,b⟩=>⟨a,Pv.turn h0 (Bo.dturn hO hD hB hA hN hM hn (b))⟩
theorem zF5 (h:Pv w wr tb mb ea eb vb s m ys) (i:Int):Calls Tryz.prog 20 #[.pointer (some ⟨mb,0,none⟩),.int .i64 i] wr fun e w'=>e= .returned (.tuple #[.agg #[.int .i64 (Lk.zgu m.ls i).1,.string (Lk.zgu m.ls i).2],.int .i64 (Lk.zik m.ls i)])∧Pv w w' tb mb ea eb vb (s) (zd0 m i) ys:=by
 have h0:=h
 obtain ⟨⟨u,d,hO,hD,hB,hA,hN,hM,hn⟩,hX⟩:=h
 exact (zeq hD i).mono fun e w' ⟨a,b⟩=>⟨a,Pv.turn h0 (Bo.dturn hO hD hB hA hN hM hn (b))⟩
theorem zxv (h:Pv w wr tb mb ea eb vb s m ys) (i:Int):Calls Tryz.prog 21 #[.pointer (some ⟨mb,0,none⟩),.int .i64 i] wr fun e w'=>e= .returned (.int .i64 (Lk.twF m.ls i))∧Pv w w' tb mb ea eb vb (s) (zeu m i) ys:=by
 have h0:=h
 obtain ⟨⟨u,d,hO,hD,hB,hA,hN,hM,hn⟩,hX⟩:=h
 exact (zls hD i).mono fun e w' ⟨a,b⟩=>⟨a,Pv.turn h0 (Bo.dturn hO hD hB hA hN hM hn (b))⟩
theorem zse (h:Pv w wr tb mb ea eb vb s m ys) (b:ByteArray) (hl:b.size≤140737488351232):Calls Tryz.prog 16 #[.pointer (some ⟨ea,0,none⟩),.string b] wr fun e w'=>e= .returned (.int .i64 (zde m 0 b))∧Pv w w' tb mb ea eb vb (s) (zci m 0 b) ys:=by
 have h0:=h
 obtain ⟨⟨u,d,hO,hD,hB,hA,hN,hM,hn⟩,hX⟩:=h
 exact (zia hD.a b hl).mono fun e w' ⟨a,b⟩=>⟨a,Pv.turn h0 (Bo.dturn hO hD hB hA hN hM hn (DTTurn.a hD b))⟩
theorem zuo (h:Pv w wr tb mb ea eb vb s m ys) (n:Int) (hr:0≤n→readF m.a n=0):Calls Tryz.prog 17 #[.pointer (some ⟨ea,0,none⟩),.int .i64 n] wr fun e w'=>e= .returned (.tuple #[.string (zfx m 0 n),.int .i64 (zfk m 0 n)])∧Pv w w' tb mb ea eb vb (s) (zdg m 0 n) ys:=by
 have h0:=h
 obtain ⟨⟨u,d,hO,hD,hB,hA,hN,hM,hn⟩,hX⟩:=h
 exact (zn1 hD.a n hr).mono fun e w' ⟨a,b⟩=>⟨a,Pv.turn h0 (Bo.dturn hO hD hB hA hN hM hn (DTTurn.a hD b))⟩
theorem zt0 (h:Pv w wr tb mb ea eb vb s m ys) (b:ByteArray) (hl:b.size≤140737488351232):Calls Tryz.prog 16 #[.pointer (some ⟨eb,0,none⟩),.string b] wr fun e w'=>e= .returned (.int .i64 (zde m 1 b))∧Pv w w' tb mb ea eb vb (s) (zci m 1 b) ys:=by
 have h0:=h
 obtain ⟨⟨u,d,hO,hD,hB,hA,hN,hM,hn⟩,hX⟩:=h
 exact (zia hD.b b hl).mono fun e w' ⟨a,b⟩=>⟨a,Pv.turn h0 (Bo.dturn hO hD hB hA hN hM hn (DTTurn.b hD b))⟩
theorem zvf (h:Pv w wr tb mb ea eb vb s m ys) (n:Int) (hr:0≤n→readF m.b n=0):Calls Tryz.prog 17 #[.pointer (some ⟨eb,0,none⟩),.int .i64 n] wr fun e w'=>e= .returned (.tuple #[.string (zfx m 1 n),.int .i64 (zfk m 1 n)])∧Pv w w' tb mb ea eb vb (s) (zdg m 1 n) ys:=by
 have h0:=h
 obtain ⟨⟨u,d,hO,hD,hB,hA,hN,hM,hn⟩,hX⟩:=h
 exact (zn1 hD.b n hr).mono fun e w' ⟨a,b⟩=>⟨a,Pv.turn h0 (Bo.dturn hO hD hB hA hN hM hn (DTTurn.b hD b))⟩
end
theorem zd9 (f:Int) (w:World) (hH:Handle w):Calls Tryz.prog 14 #[errV f,.int .i64 f] w fun e w'=>e= .returned (.bool true)∧Below w.heap.size w w':=by
 by_cases h:f=0
 ·subst h
  exact (zq0 0 w).mono fun e w' ⟨a,b⟩=>⟨by rw [a];rfl,b⟩
 ·rw [zbh h]
  exact (zha f f w hH).mono fun e w' ⟨a,b⟩=>⟨by rw [a];simp,b⟩
def Gd (n:Int) (K:Nat) (s:Tt):Prop:=∃r q r' q',TGood n K s r q r' q'
section
variable {n : Int} {K : Nat} {s : Tt}
theorem Gd.new (hn:Cx.winB n=true):Gd n 0 (newT n):=⟨0,0,0,0,TGood.new hn⟩
theorem Gd.more (h:Gd n K s):Gd n (K+1) s:=by
 obtain ⟨r,q,r',q',h⟩:=h
 exact ⟨r,q,r',q',h.more (Nat.le_succ _)⟩
theorem Gd.write (h:Gd n K s) (w:Int) (d:ByteArray):Gd n K (zci s w d):=by
 obtain ⟨r,q,r',q',h⟩:=h
 exact ⟨r,q,r',q',h.write w d⟩
theorem Gd.readF (h:Gd n K s) {m:Int} (hm:0≤m):readF s.a m=0∧readF s.b m=0:=by
 obtain ⟨r,q,r',q',h⟩:=h
 exact ⟨(h.read (w:=0) rfl hm).1,(h.read (w:=1) rfl hm).1⟩
theorem Gd.read (h:Gd n K s) (w m:Int):Gd n K (zdg s w m):=by
 by_cases h0:Lk.endB w=false∨m<0
 ·rw [(zq6 h0).2];exact h
 ·obtain ⟨r,q,r',q',h⟩:=h
  have hw:Lk.endB w=true:=by
   cases hw:Lk.endB w with
   | true=>rfl
   | false=>exact absurd (.inl hw) h0
  obtain ⟨_,q2,q2',h2,_⟩:=h.read hw (m:=m) (by have:¬m<0:=fun e=>h0 (.inr e);omega)
  exact ⟨r,q2,r',q2',h2⟩
theorem Gd.made (h:Gd n K s) (hK:K≤1000) {w:Int} (hw:Lk.endB w=true):zcb (s.who w)=0:=by
 obtain ⟨r,q,r',q',h⟩:=h
 exact h.made (by omega) hw
theorem Gd.next (h:Gd n K s) (hK:K≤1000) {w:Int} (hw:Lk.endB w=true):zai (s.who w)≤1073741823:=by
 obtain ⟨r,q,r',q',h⟩:=h
 have:=h.next hw
 omega
theorem Gd.send (h:Gd n K s) (hK:K≤1000) (w:Int):Gd n (K+1) (zca s w):=by
 obtain ⟨r,q,r',q',h⟩:=h
 exact ⟨r,q,r',q',h.send (by omega) w⟩
theorem Gd.come (h:Gd n K s) (hK:K≤120) (i:Int):Gd n K (zdx s i):=by
 obtain ⟨r,q,r',q',h⟩:=h
 obtain ⟨r2,r2',_,_,h2⟩:=h.come hK i
 exact ⟨r2,q,r2',q',h2⟩
theorem Gd.lose (h:Gd n K s) (i:Int):Gd n K (zd0 s i):=by
 obtain ⟨r,q,r',q',h⟩:=h
 exact ⟨r,q,r',q',h.lose i⟩
theorem Gd.twice (h:Gd n K s) (i:Int):Gd n K (zeu s i):=by
 obtain ⟨r,q,r',q',h⟩:=h
 exact ⟨r,q,r',q',h.twice i⟩
end
end Go.Proofs.YtdnehibcpkjafaaGreatDoor
