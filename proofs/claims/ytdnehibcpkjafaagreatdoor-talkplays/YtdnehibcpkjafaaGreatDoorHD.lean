/- What TalkPlays needs. -/
import Derived.Test.YtdnehibcpkjafaaGreatDoorHQ
import Derived.Deep.RegionLaw
set_option linter.unusedVariables false
set_option linter.unusedSimpArgs false
set_option maxRecDepth 100000
set_option maxHeartbeats 8000000
namespace Go.Proofs.YtdnehibcpkjafaaGreatDoor
open Go.RowKit Go.Lib Go.Sort
def zfj (need:Nat) (lo:Int) (zs:List R) (A:Nat) (l:List Int):Option (List R×Nat):=
 (tk need (l.drop A)).bind fun y=>if 0≤zcx lo y.1 then some (zs++pairs lo y.1,A+y.2) else none
def gF (a m:Int) (A:Nat) (l:List Int):Option (List R×Nat):=match V.getI (l.drop A) with
 | none=>none
 | some x=>if 12≤m then none else zfj (2*m.toNat) (a-x.1) [(a-x.1,a)] (A+x.2.toNat) l
theorem zvg:∀(k:Nat) (ns:List Int) (lo:Int),ns.length≤k→Mays ns→zcx lo ns≤lo:=by
 intro k
 induction k with
 | zero=>
  intro ns lo hl _
  obtain rfl:ns= []:=List.eq_nil_of_length_eq_zero (by omega)
  exact Int.le_refl _
 | succ k ih=>
  intro ns lo hl hm
  match ns,hl,hm with
  | [],_,_=>exact Int.le_refl _
  | [a],_,_=>exact Int.le_refl _
  | a::b::ns,hl,hm=>
   have:=ih ns (lo-a-2-b) (by simp at hl;omega) (fun z hz=>hm z (by simp [hz]))
   have ma:=hm a (by simp)
   have mb:=hm b (by simp)
   simp only [zcx]
   omega
theorem zt5 {need:Nat} {lo:Int} {zs:List R} {A:Nat} {l:List Int} (hn:0<need) (h:V.getI (l.drop A)=none):zfj need lo zs A l=none:=by
 obtain ⟨n,rfl⟩:∃n,need=n+1:=⟨need-1,by omega⟩
 simp [zfj,tk,h]
theorem zt3 {need:Nat} {lo:Int} {zs:List R} {A c:Nat} {l:List Int} {g:Int} (hn:1<need) (h:V.getI (l.drop A)=some (g,(c:Int))) (h2:V.getI (l.drop (A+c))=none):zfj need lo zs A l=none:=by
 obtain ⟨n,rfl⟩:∃n,need=n+1+1:=⟨need-2,by omega⟩
 simp [zfj,tk,h,List.drop_drop,h2]
theorem zxw {n:Nat} {lo:Int} {zs:List R} {A c c2:Nat} {l:List Int} {g d:Int} (h:V.getI (l.drop A)=some (g,(c:Int))) (h2:V.getI (l.drop (A+c))=some (d,(c2:Int))):
  zfj (n+2) lo zs A l=zfj n (lo-2-g-d) (zs++ [(lo-2-g-d,lo-2-g)]) (A+c+c2) l:=by
 unfold zfj
 have e1:lo-g-2-d=lo-2-g-d:=by omega
 have e2:lo-g-2=lo-2-g:=by omega
 simp only [tk,h,Int.toNat_natCast,List.drop_drop,h2]
 cases tk n (l.drop (A+c+c2)) with
 | none=>rfl
 | some y=>
  simp only [Option.map_some,Option.bind_some,zcx,pairs,e1,e2,List.append_assoc,List.singleton_append,Nat.add_assoc]
theorem znn {need:Nat} {lo:Int} {zs:List R} {A:Nat} {l:List Int} (hb:Bytes l) (h:lo<0):zfj need lo zs A l=none:=by
 unfold zfj
 cases hr:tk need (l.drop A) with
 | none=>rfl
 | some y=>
  obtain ⟨ns,c⟩:=y
  have hm:=(zhf need _ ns c (za4 hb _) hr).2.1
  have:=zvg ns.length ns lo (Nat.le_refl _) hm
  simp only [Option.bind_some]
  rw [if_neg (by omega)]
theorem zxe {lo:Int} {zs:List R} {A:Nat} {l:List Int} (h:0≤lo):zfj 0 lo zs A l=some (zs,A):=by
 simp [zfj,tk,zcx,pairs,h]
theorem zuf {l:List Int} (h:V.getI l=none):zbe l=none:=by simp [zbe,tk,h]
theorem ztu {l:List Int} {a:Int} {c:Nat} (h:V.getI l=some (a,(c:Int))) (h2:V.getI (l.drop c)=none):zbe l=none:=by simp [zbe,tk,h,h2]
theorem zoy {l:List Int} {a m:Int} {c c2:Nat} (h:V.getI l=some (a,(c:Int))) (h2:V.getI (l.drop c)=some (m,(c2:Int))):zbe l=gF a m (c+c2) l:=by
 unfold zbe gF
 simp only [tk,h,Int.toNat_natCast,h2,List.drop_drop]
 cases V.getI (l.drop (c+c2)) with
 | none=>rfl
 | some x=>
  simp only [Option.map_some,Option.bind_some,Nat.add_zero]
  by_cases hm:12≤m
  ·rw [if_pos hm,if_pos hm]
  ·rw [if_neg hm,if_neg hm]
   unfold zfj
   rw [show c+(c2+x.2.toNat)=c+c2+x.2.toNat by omega]
   cases tk (2*m.toNat) (l.drop (c+c2+x.2.toNat)) with
   | none=>rfl
   | some y=>simp
theorem zEo {a m:Int} {A:Nat} {l:List Int} (h:12≤m):gF a m A l=none:=by
 unfold gF
 cases V.getI (l.drop A) with
 | none=>rfl
 | some x=>simp [h]
theorem zHf {a m:Int} {A:Nat} {l:List Int} (h:V.getI (l.drop A)=none):gF a m A l=none:=by simp [gF,h]
theorem zIc {a m d c:Int} {A:Nat} {l:List Int} (h:V.getI (l.drop A)=some (d,c)) (hm:¬12≤m):gF a m A l=zfj (2*m.toNat) (a-d) [(a-d,a)] (A+c.toNat) l:=by simp [gF,h,hm]
theorem zs3 (front:List R) (cur:R):(flat (front++ [cur]))[front.length*2]? =some (.int .i64 cur.1)∧(flat (front++ [cur]))[front.length*2+1]? =some (.int .i64 cur.2):=by
 have h:=flat_get (front++ [cur]) front.length (by simp)
 have e:at' (front++ [cur]) front.length=cur:=by simp [at']
 rw [e] at h
 exact h
theorem zvk (s:ByteArray) (A:Nat) (hA:A≤s.size) (w:World) (hl:s.size≤9223372036854775807):
  Calls Tryz.prog 124 #[.string (s.extract A s.size)] w fun e w'=>e= .returned (V.zim (V.getI ((V.ints s).drop A)))∧Below w.heap.size w w':=by
 have h:=V.zer (s.extract A s.size) w (by unfold maxLen;simp;omega)
 rw [zae s A hA] at h
 exact h
theorem zmi (s:ByteArray) (A:Nat) (hA:A≤s.size) (w:World) (hl:s.size≤9223372036854775807) (h:V.getI ((V.ints s).drop A)=none):
  Calls Tryz.prog 124 #[.string (s.extract A s.size)] w fun e w'=>e= .returned (.tuple #[.int .i64 0,.int .i64 0,.bool false])∧Below w.heap.size w w':=by
 have:=zvk s A hA w hl
 rw [h] at this
 exact this
theorem zgo (s:ByteArray) (A:Nat) (hA:A≤s.size) (w:World) (hl:s.size≤9223372036854775807) (g c:Int) (h:V.getI ((V.ints s).drop A)=some (g,c)):
  Calls Tryz.prog 124 #[.string (s.extract A s.size)] w fun e w'=>e= .returned (.tuple #[.int .i64 g,.int .i64 c,.bool true])∧Below w.heap.size w w':=by
 have:=zvk s A hA w hl
 rw [h] at this
 exact this
abbrev zgp (s:ByteArray) (w:World) (e:Ending) (w':World):Prop:=
 ((zbe (V.ints s)=none∧e= .returned (.tuple #[.slice none 0 0,.int .i64 0,.bool false]))∨(∃(zs:List R) (v:Value) (A:Nat),zbe (V.ints s)=some (zs,A)∧e= .returned (.tuple #[v,.int .i64 (A:Int),.bool true])∧w'.ownsRow w.heap.size 129 2 v zs.length (flat zs)))∧Below w.heap.size w w'
theorem zyn (s:ByteArray) (w:World) (hl:s.size≤maxLen) (h:V.getI (V.ints s)=none):Calls Tryz.prog 123 #[.string s] w (zgp s w):=by
 have HG:=V.zer s w hl
 rw [h] at HG
 simp only [V.zim] at HG
 have hp:=zuf h
 go_enter Tryz.func123,Tryz.ntmps123
 go_wp2_with fail
 refine HG.mono ?_
 rintro e w1 ⟨rfl,hb1⟩
 go_wp2_with fail
 go_ret3
 exact ⟨.inl ⟨hp,rfl⟩,hb1⟩
theorem zvo (s:ByteArray) (w:World) (hl:s.size≤maxLen) (a:Int) (C1:Nat) (hC1:C1≤s.size) (h:V.getI (V.ints s)=some (a,(C1:Int))) (h2:V.getI ((V.ints s).drop C1)=none):Calls Tryz.prog 123 #[.string s] w (zgp s w):=by
 have HG:=V.zer s w hl
 unfold maxLen at hl
 rw [h] at HG
 simp only [V.zim] at HG
 have HG2:=fun W=>zmi s C1 hC1 W hl h2
 have hp:zbe (V.ints s)=none:=ztu h h2
 have g1:(C1:Int)≤(s.size:Int):=by omega
 clear h h2
 go_enter Tryz.func123,Tryz.ntmps123
 go_wp2_with fail
 refine HG.mono ?_
 rintro e w1 ⟨rfl,hb1⟩
 clear HG
 go_wp2_with fail
 refine (HG2 _).mono ?_
 rintro e w2 ⟨rfl,hb2⟩
 have hB2:=hb1.trans (hb2.mono hb1.size)
 go_wp2_with fail
 go_ret3
 exact ⟨.inl ⟨hp,rfl⟩,hB2⟩
theorem zye (s:ByteArray) (w:World) (hl:s.size≤maxLen) (a m:Int) (C1 C2:Nat) (hC1:C1≤s.size) (h:V.getI (V.ints s)=some (a,(C1:Int))) (h2:V.getI ((V.ints s).drop C1)=some (m,(C2:Int))) (hm:12≤m):Calls Tryz.prog 123 #[.string s] w (zgp s w):=by
 have HG:=V.zer s w hl
 unfold maxLen at hl
 rw [h] at HG
 simp only [V.zim] at HG
 have HG2:=fun W=>zgo s C1 hC1 W hl m C2 h2
 have hp:zbe (V.ints s)=none:=by
  rw [zoy h h2]
  exact zEo hm
 have g1:(C1:Int)≤(s.size:Int):=by omega
 clear h h2
 go_enter Tryz.func123,Tryz.ntmps123
 go_wp2_with fail
 refine HG.mono ?_
 rintro e w1 ⟨rfl,hb1⟩
 clear HG
 go_wp2_with fail
 refine (HG2 _).mono ?_
 rintro e w2 ⟨rfl,hb2⟩
 have hB2:=hb1.trans (hb2.mono hb1.size)
 go_wp2_with fail
 go_ret3
 exact ⟨.inl ⟨hp,rfl⟩,hB2⟩
theorem zFq (s:ByteArray) (w:World) (hl:s.size≤maxLen) (a m:Int) (C1 C2:Nat) (hC1:C1≤4) (hC2:C2≤4) (hC:C1+C2≤s.size) (h:V.getI (V.ints s)=some (a,(C1:Int))) (h2:V.getI ((V.ints s).drop C1)=some (m,(C2:Int))) (ha:0≤a∧a<1073741824) (hm0:0≤m) (hm:m<12):Calls Tryz.prog 123 #[.string s] w (zgp s w):=by
 have HG:=V.zer s w hl
 unfold maxLen at hl
 rw [h] at HG
 simp only [V.zim] at HG
 have HG2:=fun W=>zgo s C1 (by omega) W hl m C2 h2
 have HP:Hid (zbe (V.ints s)=gF a m (C1+C2) (V.ints s)):=by
  show _=_
  exact zoy h h2
 have g1:(C1:Int)≤(s.size:Int):=by omega
 clear h h2
 go_enter Tryz.func123,Tryz.ntmps123
 go_wp2_with fail
 refine HG.mono ?_
 rintro e w1 ⟨rfl,hb1⟩
 clear HG
 go_wp2_with fail
 refine (HG2 _).mono ?_
 rintro e w2 ⟨rfl,hb2⟩
 have hB2:=hb1.trans (hb2.mono hb1.size)
 clear HG2
 have gm:¬12≤m:=by omega
 go_wp2_with fail
 go_loopw [5,6,10,11] (fun hv av ov iv wr=>∃(k A:Nat) (zs:List R),(k:Int)≤m+1∧iv= .int .i64 (k:Int)∧av= .int .i64 (A:Int)∧A≤s.size∧wr.ownsRow w.heap.size 129 2 ov k (flat zs)∧Below w.heap.size w wr∧
   ((k=0∧hv= .int .i64 a∧zs= []∧Hid (zbe (V.ints s)=gF a m A (V.ints s)))∨(∃(j:Nat) (lo hx:Int) (front:List R),k=j+1∧front.length=j∧zs=front++ [(lo,hx)]∧0≤lo∧lo<1073741824∧Hid (zbe (V.ints s)=zfj (2*(m.toNat+1-k)) lo zs A (V.ints s)))))
  (fun _ _ _ iv _=>(m+1-intOf iv).toNat)
 case atStart=>exact ⟨0,C1+C2,[],by omega,rfl,by simp,hC,World.ownsRow_nil _ _ _ _,hB2,.inl ⟨rfl,rfl,rfl,HP⟩⟩
 case round=>
  obtain ⟨k,A,zs,hk,rfl,rfl,hA,hown,hB,hcase⟩:=hrel
  have gA:(A:Int)≤(s.size:Int):=by omega
  have hBs:=hB.size
  have hby:=za4 (zab s) A
  rcases hcase with ⟨rfl,rfl,rfl,hE⟩ | ⟨j,lo,hx,front,rfl,hfl,rfl,hlo0,hlo1,hE⟩
  ·have g0:(0:Int)≤m:=hm0
   have hov:∃ao c,u10= .slice ao 0 c:=by
    rcases hown.2 with ⟨e,_⟩ | ⟨g,cap,cur,e,_⟩
    ·exact ⟨_,_,e⟩
    ·exact ⟨_,_,e⟩
   obtain ⟨ao,cc,rfl⟩:=hov
   cases hg:V.getI ((V.ints s).drop A) with
   | none=>
    have HF:Hid (zbe (V.ints s)=none):=by show _=_;rw [hE.out];exact zHf hg
    have HC:=fun W=>zmi s A hA W hl hg
    clear hE hg hby
    go_wp2_with fail
    refine (HC _).mono ?_
    rintro e w3 ⟨rfl,hb3⟩
    have hB3:=hB.trans (hb3.mono hBs)
    go_wp2_with fail
    go_ret3
    exact ⟨.inl ⟨HF.out,rfl⟩,hB3⟩
   | some p=>
    obtain ⟨d,c⟩:=p
    obtain ⟨cn,rfl,hc4,hcl,hd0,hd1⟩:=zdd hby hg
    have hA2:A+cn≤s.size:=by rw [List.length_drop,zaa] at hcl;omega
    have HC:=fun W=>zgo s A hA W hl d cn hg
    have HE:Hid (zbe (V.ints s)=zfj (2*m.toNat) (a-d) [(a-d,a)] (A+cn) (V.ints s)):=by
     show _=_
     rw [hE.out,zIc hg (by omega)];rfl
    clear hE hg hcl hby
    by_cases hlow:a-d<0
    ·have HF:Hid (zbe (V.ints s)=none):=by show _=_;rw [HE.out];exact znn (zab s) hlow
     clear HE
     go_wp2_with fail
     refine (HC _).mono ?_
     rintro e w3 ⟨rfl,hb3⟩
     have hB3:=hB.trans (hb3.mono hBs)
     go_wp2_with fail
     go_ret3
     exact ⟨.inl ⟨HF.out,rfl⟩,hB3⟩
    ·have gl:¬a-d<0:=hlow
     go_wp2_with fail
     refine (HC _).mono ?_
     rintro e w3 ⟨rfl,hb3⟩
     have hB3:=hB.trans (hb3.mono hBs)
     have own3:=own_below hown hb3
     clear HC
     go_wp2_with (at_builtin;refine zdq rfl (.tmp 91) (.tmp 97) rfl w.heap.size _ _ _ rfl (own3.alloc _) _ [(a-d,a)] rfl (zjz _ (a-d) a) (by simp) (by simp;have:=hB3.size;omega) ?_;intro v4 w4 hown4 hb4)
     have hB4:Below w.heap.size w w4:=(hB3.alloc hB3.size _).trans hb4
     exact ⟨⟨1,A+cn,[(a-d,a)],by omega,by go_num,by simp,hA2,by simpa [flat] using hown4,hB4,.inr ⟨0,a-d,a,[],rfl,rfl,rfl,by omega,by omega,(by
      show _=_
      rw [HE.out,show 2*(m.toNat+1-1)=2*m.toNat by omega])⟩⟩,by simp [intOf];omega⟩
  ·have hfl':front.length*2+2≤(flat (front++ [(lo,hx)])).length:=by rw [zao];simp;omega
   have HO:Hid (wr.ownsRow w.heap.size 129 2 u10 (j+1) (flat (front++ [(lo,hx)]))):=hown
   by_cases hlt:(j:Int)+1≤m
   ·obtain ⟨gb,cap,rfl⟩:=ownsRow_succ hown
    have hg2:gb<wr.heap.size:=(hown.lt gb rfl).2
    have cl0:=hown.cells (g:=gb) rfl (j*2) (.int .i64 lo) (by have:=(zs3 front (lo,hx)).1;rw [hfl] at this;exact this)
    rw [Addr.add_lit,Nat.zero_add] at cl0
    have hneed:2*(m.toNat+1-(j+1))=2*(m.toNat+1-(j+1+1))+2:=by omega
    rw [hneed] at hE
    have hj11:j+1≤11:=by omega
    have HFL:Hid (front.length=j):=hfl
    clear hneed hfl hfl' hk hown
    cases hg:V.getI ((V.ints s).drop A) with
    | none=>
     have HF:Hid (zbe (V.ints s)=none):=by show _=_;rw [hE.out];exact zt5 (by omega) hg
     have HC:=fun W=>zmi s A hA W hl hg
     clear hE hg hby
     go_wp2_with fail
     refine (HC _).mono ?_
     rintro e w3 ⟨rfl,hb3⟩
     have hB3:=hB.trans (hb3.mono hBs)
     go_wp2_with fail
     go_ret3
     exact ⟨.inl ⟨HF.out,rfl⟩,hB3⟩
    | some p=>
     obtain ⟨g,c⟩:=p
     obtain ⟨cn,rfl,hc4,hcl,hd0,hd1⟩:=zdd hby hg
     have hA2:A+cn≤s.size:=by rw [List.length_drop,zaa] at hcl;omega
     have HC:=fun W=>zgo s A hA W hl g cn hg
     have gA2:(A:Int)+(cn:Int)≤(s.size:Int):=by omega
     cases hg2':V.getI ((V.ints s).drop (A+cn)) with
     | none=>
      have HF:Hid (zbe (V.ints s)=none):=by show _=_;rw [hE.out];exact zt3 (by omega) hg hg2'
      have HC2:=fun W=>zmi s (A+cn) hA2 W hl hg2'
      clear hE hg hby hg2' hcl
      go_wp2_with fail
      refine (HC _).mono ?_
      rintro e w3 ⟨rfl,hb3⟩
      have hB3:=hB.trans (hb3.mono hBs)
      have q0:=(hb3.cell (p:=⟨gb,j*2,none⟩) hg2).trans cl0
      have hat:((A:Int)+(cn:Int)).toNat=A+cn:=by omega
      go_wp2_with fail
      refine (HC2 _).mono ?_
      rintro e w4 ⟨rfl,hb4⟩
      have hB4:=hB3.trans (hb4.mono hB3.size)
      go_wp2_with fail
      go_ret3
      exact ⟨.inl ⟨HF.out,rfl⟩,hB4⟩
     | some p2=>
      obtain ⟨d,c2⟩:=p2
      obtain ⟨cm,rfl,hc5,hcl2,he0,he1⟩:=zdd (za4 (zab s) _) hg2'
      have hA3:A+cn+cm≤s.size:=by rw [List.length_drop,zaa] at hcl2;omega
      have HC2:=fun W=>zgo s (A+cn) hA2 W hl d cm hg2'
      have HE:Hid (zbe (V.ints s)=zfj (2*(m.toNat+1-(j+1+1))) (lo-2-g-d) (front++ [(lo,hx)]++ [(lo-2-g-d,lo-2-g)]) (A+cn+cm) (V.ints s)):=by
       show _=_
       rw [hE.out,zxw hg hg2']
      have hat:((A:Int)+(cn:Int)).toNat=A+cn:=by omega
      clear hE hg hby hg2' hcl hcl2
      by_cases hlow:lo-2-g-d<0
      ·have HF:Hid (zbe (V.ints s)=none):=by show _=_;rw [HE.out];exact znn (zab s) hlow
       clear HE
       go_wp2_with fail
       refine (HC _).mono ?_
       rintro e w3 ⟨rfl,hb3⟩
       have hB3:=hB.trans (hb3.mono hBs)
       have q0:=(hb3.cell (p:=⟨gb,j*2,none⟩) hg2).trans cl0
       go_wp2_with fail
       refine (HC2 _).mono ?_
       rintro e w4 ⟨rfl,hb4⟩
       have hB4:=hB3.trans (hb4.mono hB3.size)
       go_wp2_with fail
       go_ret3
       exact ⟨.inl ⟨HF.out,rfl⟩,hB4⟩
      ·have gl:¬lo-2-g-d<0:=hlow
       go_wp2_with fail
       refine (HC _).mono ?_
       rintro e w3 ⟨rfl,hb3⟩
       have hB3:=hB.trans (hb3.mono hBs)
       have q0:=(hb3.cell (p:=⟨gb,j*2,none⟩) hg2).trans cl0
       go_wp2_with fail
       refine (HC2 _).mono ?_
       rintro e w4 ⟨rfl,hb4⟩
       have hB4:=hB3.trans (hb4.mono hB3.size)
       have own4:=own_below (own_below HO.out hb3) hb4
       clear HC HC2
       go_wp2_with (at_builtin;refine zdq rfl (.tmp 91) (.tmp 97) rfl w.heap.size _ _ _ rfl (own4.alloc _) _ [(lo-2-g-d,lo-2-g)] rfl (zjz _ (lo-2-g-d) (lo-2-g)) (by simp;omega) (by simp;have:=hB4.size;omega) ?_;intro v5 w5 hown5 hb5)
       have hB5:Below w.heap.size w w5:=(hB4.alloc hB4.size _).trans hb5
       exact ⟨⟨j+1+1,A+cn+cm,front++ [(lo,hx)]++ [(lo-2-g-d,lo-2-g)],by omega,by go_num,by simp,hA3,(by rw [zah];exact hown5),hB5,.inr ⟨j+1,lo-2-g-d,lo-2-g,front++ [(lo,hx)],rfl,by simp [HFL.out],rfl,by omega,by omega,(by
        show _=_
        rw [HE.out])⟩⟩,by simp [intOf];omega⟩
   ·have hjm:2*(m.toNat+1-(j+1))=0:=by omega
    rw [hjm] at hE
    have F1:Hid (zbe (V.ints s)=some (front++ [(lo,hx)],A)):=by show _=_;rw [hE.out];exact zxe hlo0
    have hrow:=zbo HO.out (by simp;omega)
    have HR:Hid (Row wr u10 (front++ [(lo,hx)])):=hrow
    obtain ⟨ao,cc,hv,_⟩:=hrow
    rw [show (front++ [(lo,hx)]).length=j+1 by simp [hfl]] at hv
    subst hv
    have glt:¬(j:Int)+1≤m:=hlt
    clear hE hby hfl'
    go_wp2_with fail
    go_ret3
    exact ⟨.inr ⟨front++ [(lo,hx)],_,A,F1.out,rfl,by rw [show (front++ [(lo,hx)]).length=j+1 by simp [hfl]];exact HO.out⟩,hB⟩
theorem zi2 (s:ByteArray) (w:World) (hl:s.size≤maxLen):Calls Tryz.prog 123 #[.string s] w (zgp s w):=by
 cases hg:V.getI (V.ints s) with
 | none=>exact zyn s w hl hg
 | some p=>
  obtain ⟨a,c⟩:=p
  obtain ⟨C1,rfl,h4,hle,a0,a1⟩:=zdd (zab s) hg
  rw [zaa] at hle
  cases hg2:V.getI ((V.ints s).drop C1) with
  | none=>exact zvo s w hl a C1 hle hg hg2
  | some p2=>
   obtain ⟨m,c2⟩:=p2
   obtain ⟨C2,rfl,h5,hle2,m0,m1⟩:=zdd (za4 (zab s) _) hg2
   rw [List.length_drop,zaa] at hle2
   by_cases hm:12≤m
   ·exact zye s w hl a m C1 C2 hle hg hg2 hm
   ·exact zFq s w hl a m C1 C2 h4 h5 (by omega) hg hg2 ⟨a0,a1⟩ m0 (by omega)
theorem znw (b off M L C:Nat) (ns:List Int) (w:World) (hLM:L=2*M) (hM12:M≤12) (hlen:ns.length=L) (hb:b<w.heap.size) (hcc:ICells w b off ns):
  Calls Tryz.prog 66 #[.slice (some ⟨b,off,none⟩) L C] w fun e w'=>∃v,e= .returned v∧Row w' v (rgs ns)∧Below w.heap.size w w':=by
 have HLM:Hid (L=2*M):=hLM
 have HLen:Hid (ns.length=L):=hlen
 have CC:Hid (ICells w b off ns):=hcc
 have HRL:Hid ((rgs ns).length=M):=zcr M ns (by omega)
 obtain ⟨i0,hi0,hz0,hz1,hz2⟩:=info_parts zkt
 have HI:Hid (Tryz.prog.info? 129=some i0∧i0.zero=some (.agg #[.int .i64 0,.int .i64 0])∧i0.size=2∧i0.bytes=16):=⟨hi0,hz0,hz1,hz2⟩
 have hL24:L≤24:=by omega
 clear hlen hcc hLM hi0 hz0 hz1 hz2
 go_enter Tryz.func66,Tryz.ntmps66
 go_wp2_with fail
 go_loopw [3,4] (fun v i wr=>∃k j:Nat,k≤M∧Hid (j=2*k)∧i= .int .i64 (j:Int)∧wr.ownsRow w.heap.size 129 2 v k (flat ((rgs ns).take k))∧Below w.heap.size w wr) (fun _ i _=>L-(intOf i).toNat)
 case atStart=>exact ⟨0,0,Nat.zero_le _,rfl,rfl,World.ownsRow_nil _ _ _ _,Below.refl _ _⟩
 case round=>
  obtain ⟨k,j,hk,HJ,rfl,hown,hB⟩:=hrel
  by_cases hlt:k<M
  ·have hj:=HJ.out
   have hL:=HLM.out
   have g1:(j:Int)+1<(L:Int):=by omega
   have g0:(j:Int)<(L:Int):=by omega
   have cx0:=CC.out j (by have:=HLen.out;omega)
   have cx1:=CC.out (j+1) (by have:=HLen.out;omega)
   have z0:=(hB.cell (p:=⟨b,off+j,none⟩) hb).trans cx0
   have z1:=(hB.cell (p:=⟨b,off+(j+1),none⟩) hb).trans cx1
   have HN:Hid ((rgs ns).take (k+1)=(rgs ns).take k++ [(ns[j+1]?.getD 0,ns[j]?.getD 0)]):=by
    show _=_
    rw [take_at (by have:=HRL.out;omega),←zg1 M ns (by have:=HLen.out;omega)]
    simp [at',hlt,rgAt,hj]
   have gj0:(0:Int)≤(j:Int):=by omega
   have gj1:(0:Int)≤(j:Int)+1:=by omega
   have hw1:IntKind.i64.wrap ((j:Int)+1)=(j:Int)+1:=by simp [IntKind.wrap,IntKind.bits,IntKind.signed];omega
   have hnt:((j:Int)+1).toNat=j+1:=by omega
   clear cx0 cx1 hj hL
   generalize ns[j]?.getD 0=na at *
   generalize ns[j+1]?.getD 0=nb at *
   have HK:Hid (k<12):=by show _<_;omega
   have d0:wr.drew.cell? ⟨b,off+j,none⟩=some (.int .i64 na):=z0
   have d1:wr.drew.cell? ⟨b,off+(j+1),none⟩=some (.int .i64 nb):=z1
   have ownd:wr.drew.ownsRow w.heap.size 129 2 u3 k (flat ((rgs ns).take k)):=hown
   have HO:Hid (wr.drew.ownsRow w.heap.size 129 2 u3 k (flat ((rgs ns).take k))):=ownd
   have hBd:Below w.heap.size w wr.drew:=hB.drew
   have hbd:b<wr.drew.heap.size:=Nat.lt_of_lt_of_le hb hBd.size
   have hsd:w.heap.size≤wr.drew.heap.size:=hBd.size
   have hs0:w.heap.size≤wr.heap.size:=hBd.size
   have hcn:=zhh wr.drew nb na
   have CS:Hid (∀j u,[Value.int .i64 nb,Value.int .i64 na][j]? =some u→(wr.drew.alloc (.cells #[.int .i64 nb,.int .i64 na] 129)).cell? ((⟨wr.drew.heap.size,0,none⟩:Addr).add j)=some u):=hcn
   have hng:some b≠u3.ownBlock:=fun e=>by have:=(ownd.lt b e.symm).1;omega
   have hba:b<(wr.drew.alloc (.cells #[.int .i64 nb,.int .i64 na] 129)).heap.size:=by rw [World.size_alloc];omega
   have e0:=(World.cell?_alloc_lt wr.drew (.cells #[.int .i64 nb,.int .i64 na] 129) ⟨b,off+j,none⟩ hbd).trans d0
   have e1:=(World.cell?_alloc_lt wr.drew (.cells #[.int .i64 nb,.int .i64 na] 129) ⟨b,off+(j+1),none⟩ hbd).trans d1
   obtain ⟨av,cv,rfl⟩:∃a c,u3= .slice a k c:=by
    rcases hown.2 with ⟨e,h0⟩ | ⟨g',cap,cur,e,_⟩
    ·exact ⟨none,0,by rw [e,h0]⟩
    ·exact ⟨_,_,e⟩
   clear hown ownd hcn z0 z1
   go_wp2_with fail
   go_region_held3 (fun X=>X.cell? ⟨b,off+j,none⟩=some (.int .i64 na)∧X.cell? ⟨b,off+(j+1),none⟩=some (.int .i64 nb)) (first | exact ⟨d0,d1⟩ | exact ⟨e0,e1⟩ | exact ⟨f0,f1⟩) (first | (refine zam rfl (.tmp 12) (.tmp 23) 68 rfl w.heap.size 129 i0 _ 2 16 Tryz.underlying68 HI.out.1 HI.out.2.1 HI.out.2.2.1 HI.out.2.2.2 rfl (by decide) (.slice av k cv) k (flat ((rgs ns).take k)) (by simp [Act.eval,Act.put]) (HO.out.alloc _) ⟨wr.drew.heap.size,0,none⟩ 1 1 [Value.int .i64 nb,Value.int .i64 na] (by simp [Act.eval,Act.put]) rfl CS.out (by intro u hu;simp at hu;rcases hu with rfl | rfl<;>rfl) (by have:=HK.out;unfold maxLen;omega) (by have:=HK.out;omega) (by simp;omega) ?_;intro v' w4 hown' hgrow;have f0:=zau e0 hgrow hba hng;have f1:=zau e1 hgrow hba hng))
   go_wp2_with fail
   exact ⟨⟨k+1,j+2,by omega,by show _=_;have:=HJ.out;omega,by go_num,by rw [HN.out,zah];exact hown',(hBd.alloc hBd.size _).grown hgrow (by rw [World.size_alloc];omega) (fun q e=>(HO.out.lt q e).1)⟩,by simp [intOf];omega⟩
  ·obtain rfl:k=M:=by omega
   have g1:¬(j:Int)+1<(L:Int):=by have:=HJ.out;have:=HLM.out;omega
   have gj1:(0:Int)≤(j:Int)+1:=by omega
   have hjb:j≤24:=by have:=HJ.out;omega
   have HE:Hid ((rgs ns).take k=rgs ns):=by show _=_;rw [←HRL.out,List.take_length]
   rw [HE.out] at hown
   have hrow:=zbo hown (by have:=HRL.out;omega)
   obtain ⟨av,cv,hv,_⟩:=id hrow
   clear HE
   rw [HRL.out] at hv
   subst hv
   go_wp2_with fail
   go_ret
   exact ⟨_,rfl,hrow,hB⟩
theorem zgz (v:Value) (ns:List Int) (M:Nat) (w:World) (hR:IRow w v ns) (hM:ns.length=2*M) (h1:1≤M) (h12:M≤12):
  Calls Tryz.prog 66 #[v] w fun e w'=>∃v',e= .returned v'∧Row w' v' (rgs ns)∧Below w.heap.size w w':=by
 obtain ⟨ao,c,rfl,hl,hc,hz⟩:=hR
 rcases hz with h | ⟨b,off,rfl,hb,hC⟩
 ·subst h;simp at hM;omega
 ·exact znw b off M _ c ns w hM h12 rfl hb hC
def cntD (k:Int):Int:=if k=1 then 0 else if k=2 then -1 else if k=7 then 2 else 1
theorem zaq (k:Int) (w:World):Calls Tryz.prog 119 #[.int .i64 k] w fun e w'=>e= .returned (.int .i64 (cntD k))∧w'=w:=by
 by_cases h1:k=1
 ·subst h1
  go_enter Tryz.func119,Tryz.ntmps119
  go_wp2_with fail
  go_ret
  exact ⟨rfl,rfl⟩
 ·by_cases h2:k=2
  ·subst h2
   go_enter Tryz.func119,Tryz.ntmps119
   go_wp2_with fail
   go_ret
   exact ⟨rfl,rfl⟩
  ·by_cases h7:k=7
   ·subst h7
    go_enter Tryz.func119,Tryz.ntmps119
    go_wp2_with fail
    go_ret
    exact ⟨rfl,rfl⟩
   ·have e:cntD k=1:=by simp [cntD,h1,h2,h7]
    rw [e]
    clear e
    go_enter Tryz.func119,Tryz.ntmps119
    go_wp2_with fail
    go_ret
    exact ⟨rfl,rfl⟩
def ackF (r:Int):Int:=if r=0 then 0 else 3
theorem zI5 (k:Int) (ao:Option Addr) (n c:Nat) (d:ByteArray) (ns:List Int) (w:World) (hR0:IRow w (.slice ao n c) ns) (hn:ns.length=n) (hd:d.size≤maxLen) (h:k<1):
  Calls Tryz.prog 95 #[.agg #[.int .i64 k,.slice ao n c,.string d]] w fun e w'=>e= .returned (.int .i64 1)∧Below w.heap.size w w':=by
 unfold maxLen at hd
 have hl:n≤9223372036854775807:=by obtain ⟨_,_,_,h,_⟩:=hR0;omega
 have bel:Below w.heap.size w (w.alloc (.cells #[.int .i64 k,.slice ao n c,.string d] 114)):=(Below.refl _ w).alloc (Nat.le_refl _) _
 go_enter Tryz.func95,Tryz.ntmps95
 go_wp2_with fail
 go_ret
 exact ⟨rfl,bel⟩
theorem zIx (k:Int) (ao:Option Addr) (n c:Nat) (d:ByteArray) (ns:List Int) (w:World) (hR0:IRow w (.slice ao n c) ns) (hn:ns.length=n) (hd:d.size≤maxLen) (h:8<k):
  Calls Tryz.prog 95 #[.agg #[.int .i64 k,.slice ao n c,.string d]] w fun e w'=>e= .returned (.int .i64 1)∧Below w.heap.size w w':=by
 unfold maxLen at hd
 have hl:n≤9223372036854775807:=by obtain ⟨_,_,_,h,_⟩:=hR0;omega
 have bel:Below w.heap.size w (w.alloc (.cells #[.int .i64 k,.slice ao n c,.string d] 114)):=(Below.refl _ w).alloc (Nat.le_refl _) _
 have hk1:¬k<1:=by omega
 go_enter Tryz.func95,Tryz.ntmps95
 go_wp2_with fail
 go_ret
 exact ⟨rfl,bel⟩
theorem zI7 (k:Int) (ao:Option Addr) (n c:Nat) (d:ByteArray) (ns:List Int) (w:World) (hR0:IRow w (.slice ao n c) ns) (hn:ns.length=n) (hd:d.size≤maxLen) (h1:zbk k=true) (h2:k≠2) (hc:cntB k n=false):
  Calls Tryz.prog 95 #[.agg #[.int .i64 k,.slice ao n c,.string d]] w fun e w'=>e= .returned (.int .i64 3)∧Below w.heap.size w w':=by
 unfold maxLen at hd
 have hl:n≤9223372036854775807:=by obtain ⟨_,_,_,h,_⟩:=hR0;omega
 have bel:Below w.heap.size w (w.alloc (.cells #[.int .i64 k,.slice ao n c,.string d] 114)):=(Below.refl _ w).alloc (Nat.le_refl _) _
 have hk:=(zb1 k).1 h1
 have hk8:¬8<k:=by omega
 have hk1:¬k<1:=by omega
 have HC:=zaq k
 rw [show cntD k=((cntK k:Nat):Int) by unfold cntD cntK;simp only [h2];repeat' split<;>simp_all] at HC
 have hk2:¬k=2:=h2
 have hne:¬n=cntK k:=by simpa [cntB,hk2] using hc
 generalize cntK k=q at *
 have gq:¬(n:Int)=(q:Int):=by omega
 clear h1 h2 hc hk hne hR0 hn
 go_enter Tryz.func95,Tryz.ntmps95
 go_wp2_with (first | (go_at_call 119;refine (HC _).mono ?_;rintro e w1 ⟨rfl,rfl⟩))
 go_ret
 exact ⟨rfl,bel⟩
theorem zI9 (ao:Option Addr) (n c:Nat) (d:ByteArray) (ns:List Int) (w:World) (hR0:IRow w (.slice ao n c) ns) (hn:ns.length=n) (hd:d.size≤maxLen) (hc:n=0):
  Calls Tryz.prog 95 #[.agg #[.int .i64 2,.slice ao n c,.string d]] w fun e w'=>e= .returned (.int .i64 3)∧Below w.heap.size w w':=by
 unfold maxLen at hd
 have hl:n≤9223372036854775807:=by obtain ⟨_,_,_,h,_⟩:=hR0;omega
 have bel:Below w.heap.size w (w.alloc (.cells #[.int .i64 2,.slice ao n c,.string d] 114)):=(Below.refl _ w).alloc (Nat.le_refl _) _
 have HC:=zaq 2
 subst hc
 clear hR0 hn
 go_enter Tryz.func95,Tryz.ntmps95
 go_wp2_with (first | (go_at_call 119;refine (HC _).mono ?_;rintro e w1 ⟨rfl,rfl⟩))
 go_ret
 exact ⟨rfl,bel⟩
theorem zI3 (ao:Option Addr) (n c:Nat) (d:ByteArray) (ns:List Int) (w:World) (hR0:IRow w (.slice ao n c) ns) (hn:ns.length=n) (hd:d.size≤maxLen) (hc:n≠0) (hc2:n%2=1):
  Calls Tryz.prog 95 #[.agg #[.int .i64 2,.slice ao n c,.string d]] w fun e w'=>e= .returned (.int .i64 3)∧Below w.heap.size w w':=by
 unfold maxLen at hd
 have hl:n≤9223372036854775807:=by obtain ⟨_,_,_,h,_⟩:=hR0;omega
 have bel:Below w.heap.size w (w.alloc (.cells #[.int .i64 2,.slice ao n c,.string d] 114)):=(Below.refl _ w).alloc (Nat.le_refl _) _
 have HC:=zaq 2
 have gz:¬(n:Int)=0:=by omega
 have gm:(n:Int).tmod 2=1:=by rw [Int.tmod_eq_emod_of_nonneg (by omega)];omega
 clear hR0 hn hc hc2
 go_enter Tryz.func95,Tryz.ntmps95
 go_wp2_with (first | (go_at_call 119;refine (HC _).mono ?_;rintro e w1 ⟨rfl,rfl⟩))
 go_ret
 exact ⟨rfl,bel⟩
theorem zId (ao:Option Addr) (n c:Nat) (d:ByteArray) (ns:List Int) (w:World) (hR0:IRow w (.slice ao n c) ns) (hn:ns.length=n) (hd:d.size≤maxLen) (hc:n≠0) (hc2:n%2=0) (hc3:24<n):
  Calls Tryz.prog 95 #[.agg #[.int .i64 2,.slice ao n c,.string d]] w fun e w'=>e= .returned (.int .i64 3)∧Below w.heap.size w w':=by
 unfold maxLen at hd
 have hl:n≤9223372036854775807:=by obtain ⟨_,_,_,h,_⟩:=hR0;omega
 have bel:Below w.heap.size w (w.alloc (.cells #[.int .i64 2,.slice ao n c,.string d] 114)):=(Below.refl _ w).alloc (Nat.le_refl _) _
 have HC:=zaq 2
 have gz:¬(n:Int)=0:=by omega
 have gm:(n:Int).tmod 2=0:=by rw [Int.tmod_eq_emod_of_nonneg (by omega)];omega
 have g24:(24:Int)<(n:Int):=by omega
 clear hR0 hn hc hc2
 go_enter Tryz.func95,Tryz.ntmps95
 go_wp2_with (first | (go_at_call 119;refine (HC _).mono ?_;rintro e w1 ⟨rfl,rfl⟩))
 go_ret
 exact ⟨rfl,bel⟩
theorem zIm (k:Int) (ao:Option Addr) (n c:Nat) (d:ByteArray) (ns:List Int) (w:World) (hR0:IRow w (.slice ao n c) ns) (hn:ns.length=n) (hd:d.size≤maxLen) (h1:zbk k=true) (h2:k≠2) (h3:k≠3) (hc:cntB k n=true) (h0:d.size≠0):
  Calls Tryz.prog 95 #[.agg #[.int .i64 k,.slice ao n c,.string d]] w fun e w'=>e= .returned (.int .i64 3)∧Below w.heap.size w w':=by
 unfold maxLen at hd
 have hl:n≤9223372036854775807:=by obtain ⟨_,_,_,h,_⟩:=hR0;omega
 have bel:Below w.heap.size w (w.alloc (.cells #[.int .i64 k,.slice ao n c,.string d] 114)):=(Below.refl _ w).alloc (Nat.le_refl _) _
 have hk:=(zb1 k).1 h1
 have hk8:¬8<k:=by omega
 have hk1:¬k<1:=by omega
 have hk3:¬k=3:=h3
 have HC:=zaq k
 rw [show cntD k=((cntK k:Nat):Int) by unfold cntD cntK;simp only [h2];repeat' split<;>simp_all] at HC
 have hk2:¬k=2:=h2
 rw [show cntK k=n by simp [cntB,hk2] at hc;omega] at HC
 have hne:=zb0 h0
 clear hc h1 h2 hk hR0 hn
 go_enter Tryz.func95,Tryz.ntmps95
 go_wp2_with (first | (go_at_call 119;refine (HC _).mono ?_;rintro e w1 ⟨rfl,rfl⟩))
 go_ret
 exact ⟨by first | rfl | simp,bel⟩
theorem zIk (ao:Option Addr) (n c:Nat) (d:ByteArray) (ns:List Int) (w:World) (hR0:IRow w (.slice ao n c) ns) (hn:ns.length=n) (hd:d.size≤maxLen) (M:Nat) (hM:n=2*M) (hM1:1≤M) (hM12:M≤12) (h0:d.size≠0):
  Calls Tryz.prog 95 #[.agg #[.int .i64 2,.slice ao n c,.string d]] w fun e w'=>e= .returned (.int .i64 3)∧Below w.heap.size w w':=by
 unfold maxLen at hd
 have hl:n≤9223372036854775807:=by obtain ⟨_,_,_,h,_⟩:=hR0;omega
 have bel:Below w.heap.size w (w.alloc (.cells #[.int .i64 2,.slice ao n c,.string d] 114)):=(Below.refl _ w).alloc (Nat.le_refl _) _
 have HC:=zaq 2
 have gz:¬(n:Int)=0:=by omega
 have gz':((n:Int)==0)=false:=by simp;omega
 have g24:¬(24:Int)<(n:Int):=by omega
 have gm:(n:Int).tmod 2=0:=by rw [Int.tmod_eq_emod_of_nonneg (by omega)];omega
 have hne:=zb0 h0
 clear hM hR0 hn
 go_enter Tryz.func95,Tryz.ntmps95
 go_wp2_with (first | (go_at_call 119;refine (HC _).mono ?_;rintro e w1 ⟨rfl,rfl⟩))
 go_ret
 exact ⟨by first | rfl | simp,bel⟩
theorem zIr (k:Int) (ao:Option Addr) (n c:Nat) (ns:List Int) (w:World) (hR0:IRow w (.slice ao n c) ns) (hn:ns.length=n) (h1:zbk k=true) (h2:k≠2) (h3:k≠3) (hc:cntB k n=true) (h4:anyB ns=true):
  Calls Tryz.prog 95 #[.agg #[.int .i64 k,.slice ao n c,.string {data:= #[]}]] w fun e w'=>e= .returned (.int .i64 1)∧Below w.heap.size w w':=by
 skip
 have hl:n≤9223372036854775807:=by obtain ⟨_,_,_,h,_⟩:=hR0;omega
 have bel:Below w.heap.size w (w.alloc (.cells #[.int .i64 k,.slice ao n c,.string {data:= #[]}] 114)):=(Below.refl _ w).alloc (Nat.le_refl _) _
 have hk:=(zb1 k).1 h1
 have hk8:¬8<k:=by omega
 have hk1:¬k<1:=by omega
 have hk3:¬k=3:=h3
 have HC:=zaq k
 rw [show cntD k=((cntK k:Nat):Int) by unfold cntD cntK;simp only [h2];repeat' split<;>simp_all] at HC
 have hk2:¬k=2:=h2
 rw [show cntK k=n by simp [cntB,hk2] at hc;omega] at HC
 have HR:Hid (IRow w (.slice ao n c) ns):=hR0
 have HN:Hid (ns.length=n):=hn
 clear hR0 hn
 clear hc h1 h2 hk
 go_enter Tryz.func95,Tryz.ntmps95
 go_wp2_with (first | (go_at_call 119;refine (HC _).mono ?_;rintro e w1 ⟨rfl,rfl⟩))
 have bx:FBox (w.alloc (.cells #[.int .i64 k,.slice ao n c,.string {data:= #[]}] 114)) w.heap.size k (.slice ao n c) {data:= #[]}:=FBox.new w k _ _
 generalize (w.alloc (.cells #[.int .i64 k,.slice ao n c,.string {data:= #[]}] 114))=W1 at *
 have f0:=bx.c0
 have f1:=bx.c1
 have f2:=bx.c2
 go_loopw [5] (fun i wr=>∃j:Nat,j≤n∧i= .int .i64 (j:Int)∧wr=W1∧Hid (∀q,q<j→V.mayB (ns[q]?.getD 0)=true)) (fun i _=>n-(intOf i).toNat)
 case atStart=>exact ⟨0,Nat.zero_le _,rfl,rfl,fun q hq=>absurd hq (Nat.not_lt_zero _)⟩
 case round=>
  obtain ⟨j,hj,rfl,rfl,HA⟩:=hrel
  by_cases hlt:j<n
  ·have g1:(j:Int)<(n:Int):=by omega
   have hjl:j<ns.length:=by have:=HN.out;omega
   obtain ⟨b,off,rfl,hb,hC⟩:∃b off,ao=some ⟨b,off,none⟩∧b<w.heap.size∧ICells w b off ns:=by
    obtain ⟨a',c',e',_,_,hz⟩:=HR.out
    injection e' with e1 _ _
    subst e1
    rcases hz with h | h
    ·rw [h] at hjl;simp at hjl
    ·exact h
   have z0:=hC.below hb bel j hjl
   generalize hy:ns[j]?.getD 0=y at *
   have HY:Hid (ns[j]?.getD 0=y):=hy
   clear hy hC
   have gj0:(0:Int)≤(j:Int):=by omega
   cases hm:V.mayB y with
   | true=>
    have HM:=V.zea y wr
    rw [hm] at HM
    go_wp2_with (first | (go_at_call 62;refine HM.mono ?_;rintro e w2 ⟨rfl,rfl⟩))
    refine ⟨⟨j+1,by omega,by go_num,by first | rfl | trivial,(show Hid _ from fun q hq=> ?_)⟩,by simp [intOf];omega⟩
    by_cases e:q=j
    ·subst e;rw [HY.out];exact hm
    ·exact HA.out q (by omega)
   | false=>
    have HM:=V.zea y wr
    rw [hm] at HM
    go_wp2_with (first | (go_at_call 62;refine HM.mono ?_;rintro e w2 ⟨rfl,rfl⟩))
    go_ret
    exact ⟨rfl,bel⟩
  ·obtain rfl:j=n:=by omega
   have g1:¬(j:Int)<(j:Int):=by omega
   exfalso
   obtain ⟨q,hq,hq2⟩:=any_ints.1 h4
   rw [HA.out q (by have:=HN.out;omega)] at hq2
   cases hq2
theorem zI2 (ao:Option Addr) (n c:Nat) (d:ByteArray) (ns:List Int) (w:World) (hR0:IRow w (.slice ao n c) ns) (hn:ns.length=n) (hd:d.size≤maxLen) (hc:n=1) (h4:anyB ns=true):
  Calls Tryz.prog 95 #[.agg #[.int .i64 3,.slice ao n c,.string d]] w fun e w'=>e= .returned (.int .i64 1)∧Below w.heap.size w w':=by
 unfold maxLen at hd
 have hl:n≤9223372036854775807:=by obtain ⟨_,_,_,h,_⟩:=hR0;omega
 have bel:Below w.heap.size w (w.alloc (.cells #[.int .i64 3,.slice ao n c,.string d] 114)):=(Below.refl _ w).alloc (Nat.le_refl _) _
 have HC:=zaq 3
 rw [show cntD 3=(n:Int) by rw [hc];rfl] at HC
 have HR:Hid (IRow w (.slice ao n c) ns):=hR0
 have HN:Hid (ns.length=n):=hn
 clear hR0 hn
 clear hc
 go_enter Tryz.func95,Tryz.ntmps95
 go_wp2_with (first | (go_at_call 119;refine (HC _).mono ?_;rintro e w1 ⟨rfl,rfl⟩))
 have bx:FBox (w.alloc (.cells #[.int .i64 3,.slice ao n c,.string d] 114)) w.heap.size 3 (.slice ao n c) d:=FBox.new w 3 _ _
 generalize (w.alloc (.cells #[.int .i64 3,.slice ao n c,.string d] 114))=W1 at *
 have f0:=bx.c0
 have f1:=bx.c1
 have f2:=bx.c2
 go_loopw [5] (fun i wr=>∃j:Nat,j≤n∧i= .int .i64 (j:Int)∧wr=W1∧Hid (∀q,q<j→V.mayB (ns[q]?.getD 0)=true)) (fun i _=>n-(intOf i).toNat)
 case atStart=>exact ⟨0,Nat.zero_le _,rfl,rfl,fun q hq=>absurd hq (Nat.not_lt_zero _)⟩
 case round=>
  obtain ⟨j,hj,rfl,rfl,HA⟩:=hrel
  by_cases hlt:j<n
  ·have g1:(j:Int)<(n:Int):=by omega
   have hjl:j<ns.length:=by have:=HN.out;omega
   obtain ⟨b,off,rfl,hb,hC⟩:∃b off,ao=some ⟨b,off,none⟩∧b<w.heap.size∧ICells w b off ns:=by
    obtain ⟨a',c',e',_,_,hz⟩:=HR.out
    injection e' with e1 _ _
    subst e1
    rcases hz with h | h
    ·rw [h] at hjl;simp at hjl
    ·exact h
   have z0:=hC.below hb bel j hjl
   generalize hy:ns[j]?.getD 0=y at *
   have HY:Hid (ns[j]?.getD 0=y):=hy
   clear hy hC
   have gj0:(0:Int)≤(j:Int):=by omega
   cases hm:V.mayB y with
   | true=>
    have HM:=V.zea y wr
    rw [hm] at HM
    go_wp2_with (first | (go_at_call 62;refine HM.mono ?_;rintro e w2 ⟨rfl,rfl⟩))
    refine ⟨⟨j+1,by omega,by go_num,by first | rfl | trivial,(show Hid _ from fun q hq=> ?_)⟩,by simp [intOf];omega⟩
    by_cases e:q=j
    ·subst e;rw [HY.out];exact hm
    ·exact HA.out q (by omega)
   | false=>
    have HM:=V.zea y wr
    rw [hm] at HM
    go_wp2_with (first | (go_at_call 62;refine HM.mono ?_;rintro e w2 ⟨rfl,rfl⟩))
    go_ret
    exact ⟨rfl,bel⟩
  ·obtain rfl:j=n:=by omega
   have g1:¬(j:Int)<(j:Int):=by omega
   exfalso
   obtain ⟨q,hq,hq2⟩:=any_ints.1 h4
   rw [HA.out q (by have:=HN.out;omega)] at hq2
   cases hq2
theorem zIi (ao:Option Addr) (n c:Nat) (ns:List Int) (w:World) (hR0:IRow w (.slice ao n c) ns) (hn:ns.length=n) (M:Nat) (hM:n=2*M) (hM1:1≤M) (hM12:M≤12) (h4:anyB ns=true):
  Calls Tryz.prog 95 #[.agg #[.int .i64 2,.slice ao n c,.string {data:= #[]}]] w fun e w'=>e= .returned (.int .i64 1)∧Below w.heap.size w w':=by
 skip
 have hl:n≤9223372036854775807:=by obtain ⟨_,_,_,h,_⟩:=hR0;omega
 have bel:Below w.heap.size w (w.alloc (.cells #[.int .i64 2,.slice ao n c,.string {data:= #[]}] 114)):=(Below.refl _ w).alloc (Nat.le_refl _) _
 have HC:=zaq 2
 have gz:¬(n:Int)=0:=by omega
 have gz':((n:Int)==0)=false:=by simp;omega
 have g24:¬(24:Int)<(n:Int):=by omega
 have gm:(n:Int).tmod 2=0:=by rw [Int.tmod_eq_emod_of_nonneg (by omega)];omega
 have HR:Hid (IRow w (.slice ao n c) ns):=hR0
 have HN:Hid (ns.length=n):=hn
 clear hR0 hn
 clear hM
 go_enter Tryz.func95,Tryz.ntmps95
 go_wp2_with (first | (go_at_call 119;refine (HC _).mono ?_;rintro e w1 ⟨rfl,rfl⟩))
 have bx:FBox (w.alloc (.cells #[.int .i64 2,.slice ao n c,.string {data:= #[]}] 114)) w.heap.size 2 (.slice ao n c) {data:= #[]}:=FBox.new w 2 _ _
 generalize (w.alloc (.cells #[.int .i64 2,.slice ao n c,.string {data:= #[]}] 114))=W1 at *
 have f0:=bx.c0
 have f1:=bx.c1
 have f2:=bx.c2
 go_loopw [5] (fun i wr=>∃j:Nat,j≤n∧i= .int .i64 (j:Int)∧wr=W1∧Hid (∀q,q<j→V.mayB (ns[q]?.getD 0)=true)) (fun i _=>n-(intOf i).toNat)
 case atStart=>exact ⟨0,Nat.zero_le _,rfl,rfl,fun q hq=>absurd hq (Nat.not_lt_zero _)⟩
 case round=>
  obtain ⟨j,hj,rfl,rfl,HA⟩:=hrel
  by_cases hlt:j<n
  ·have g1:(j:Int)<(n:Int):=by omega
   have hjl:j<ns.length:=by have:=HN.out;omega
   obtain ⟨b,off,rfl,hb,hC⟩:∃b off,ao=some ⟨b,off,none⟩∧b<w.heap.size∧ICells w b off ns:=by
    obtain ⟨a',c',e',_,_,hz⟩:=HR.out
    injection e' with e1 _ _
    subst e1
    rcases hz with h | h
    ·rw [h] at hjl;simp at hjl
    ·exact h
   have z0:=hC.below hb bel j hjl
   generalize hy:ns[j]?.getD 0=y at *
   have HY:Hid (ns[j]?.getD 0=y):=hy
   clear hy hC
   have gj0:(0:Int)≤(j:Int):=by omega
   cases hm:V.mayB y with
   | true=>
    have HM:=V.zea y wr
    rw [hm] at HM
    go_wp2_with (first | (go_at_call 62;refine HM.mono ?_;rintro e w2 ⟨rfl,rfl⟩))
    refine ⟨⟨j+1,by omega,by go_num,by first | rfl | trivial,(show Hid _ from fun q hq=> ?_)⟩,by simp [intOf];omega⟩
    by_cases e:q=j
    ·subst e;rw [HY.out];exact hm
    ·exact HA.out q (by omega)
   | false=>
    have HM:=V.zea y wr
    rw [hm] at HM
    go_wp2_with (first | (go_at_call 62;refine HM.mono ?_;rintro e w2 ⟨rfl,rfl⟩))
    go_ret
    exact ⟨rfl,bel⟩
  ·obtain rfl:j=n:=by omega
   have g1:¬(j:Int)<(j:Int):=by omega
   exfalso
   obtain ⟨q,hq,hq2⟩:=any_ints.1 h4
   rw [HA.out q (by have:=HN.out;omega)] at hq2
   cases hq2
theorem zI0 (ao:Option Addr) (n c:Nat) (d:ByteArray) (ns:List Int) (w:World) (hR0:IRow w (.slice ao n c) ns) (hn:ns.length=n) (hd:d.size≤maxLen) (hc:n=1) (h4:anyB ns=false) (h5:20<d.size):
  Calls Tryz.prog 95 #[.agg #[.int .i64 3,.slice ao n c,.string d]] w fun e w'=>e= .returned (.int .i64 4)∧Below w.heap.size w w':=by
 unfold maxLen at hd
 have hl:n≤9223372036854775807:=by obtain ⟨_,_,_,h,_⟩:=hR0;omega
 have bel:Below w.heap.size w (w.alloc (.cells #[.int .i64 3,.slice ao n c,.string d] 114)):=(Below.refl _ w).alloc (Nat.le_refl _) _
 have HC:=zaq 3
 rw [show cntD 3=(n:Int) by rw [hc];rfl] at HC
 have HR:Hid (IRow w (.slice ao n c) ns):=hR0
 have HN:Hid (ns.length=n):=hn
 clear hR0 hn
 clear hc
 have g5:(20:Int)<(d.size:Int):=by omega
 go_enter Tryz.func95,Tryz.ntmps95
 go_wp2_with (first | (go_at_call 119;refine (HC _).mono ?_;rintro e w1 ⟨rfl,rfl⟩))
 have bx:FBox (w.alloc (.cells #[.int .i64 3,.slice ao n c,.string d] 114)) w.heap.size 3 (.slice ao n c) d:=FBox.new w 3 _ _
 generalize (w.alloc (.cells #[.int .i64 3,.slice ao n c,.string d] 114))=W1 at *
 have f0:=bx.c0
 have f1:=bx.c1
 have f2:=bx.c2
 go_loopw [5] (fun i wr=>∃j:Nat,j≤n∧i= .int .i64 (j:Int)∧wr=W1∧Hid (∀q,q<j→V.mayB (ns[q]?.getD 0)=true)) (fun i _=>n-(intOf i).toNat)
 case atStart=>exact ⟨0,Nat.zero_le _,rfl,rfl,fun q hq=>absurd hq (Nat.not_lt_zero _)⟩
 case round=>
  obtain ⟨j,hj,rfl,rfl,HA⟩:=hrel
  by_cases hlt:j<n
  ·have g1:(j:Int)<(n:Int):=by omega
   have hjl:j<ns.length:=by have:=HN.out;omega
   obtain ⟨b,off,rfl,hb,hC⟩:∃b off,ao=some ⟨b,off,none⟩∧b<w.heap.size∧ICells w b off ns:=by
    obtain ⟨a',c',e',_,_,hz⟩:=HR.out
    injection e' with e1 _ _
    subst e1
    rcases hz with h | h
    ·rw [h] at hjl;simp at hjl
    ·exact h
   have z0:=hC.below hb bel j hjl
   generalize hy:ns[j]?.getD 0=y at *
   have HY:Hid (ns[j]?.getD 0=y):=hy
   clear hy hC
   have gj0:(0:Int)≤(j:Int):=by omega
   cases hm:V.mayB y with
   | true=>
    have HM:=V.zea y wr
    rw [hm] at HM
    go_wp2_with (first | (go_at_call 62;refine HM.mono ?_;rintro e w2 ⟨rfl,rfl⟩))
    refine ⟨⟨j+1,by omega,by go_num,by first | rfl | trivial,(show Hid _ from fun q hq=> ?_)⟩,by simp [intOf];omega⟩
    by_cases e:q=j
    ·subst e;rw [HY.out];exact hm
    ·exact HA.out q (by omega)
   | false=>
    exfalso
    have:=any_ints.2 ⟨j,hjl,by rw [HY.out];exact hm⟩
    rw [h4] at this
    cases this
  ·obtain rfl:j=n:=by omega
   have g1:¬(j:Int)<(j:Int):=by omega
   clear HA
   go_wp2_with fail
   go_ret
   exact ⟨rfl,bel⟩
theorem zI4 (ao:Option Addr) (n c:Nat) (d:ByteArray) (ns:List Int) (w:World) (hR0:IRow w (.slice ao n c) ns) (hn:ns.length=n) (hd:d.size≤maxLen) (hc:n=1) (h4:anyB ns=false) (h5:d.size≤20):
  Calls Tryz.prog 95 #[.agg #[.int .i64 3,.slice ao n c,.string d]] w fun e w'=>e= .returned (.int .i64 0)∧Below w.heap.size w w':=by
 unfold maxLen at hd
 have hl:n≤9223372036854775807:=by obtain ⟨_,_,_,h,_⟩:=hR0;omega
 have bel:Below w.heap.size w (w.alloc (.cells #[.int .i64 3,.slice ao n c,.string d] 114)):=(Below.refl _ w).alloc (Nat.le_refl _) _
 have HC:=zaq 3
 rw [show cntD 3=(n:Int) by rw [hc];rfl] at HC
 have HR:Hid (IRow w (.slice ao n c) ns):=hR0
 have HN:Hid (ns.length=n):=hn
 clear hR0 hn
 clear hc
 have g5:¬(20:Int)<(d.size:Int):=by omega
 go_enter Tryz.func95,Tryz.ntmps95
 go_wp2_with (first | (go_at_call 119;refine (HC _).mono ?_;rintro e w1 ⟨rfl,rfl⟩))
 have bx:FBox (w.alloc (.cells #[.int .i64 3,.slice ao n c,.string d] 114)) w.heap.size 3 (.slice ao n c) d:=FBox.new w 3 _ _
 generalize (w.alloc (.cells #[.int .i64 3,.slice ao n c,.string d] 114))=W1 at *
 have f0:=bx.c0
 have f1:=bx.c1
 have f2:=bx.c2
 go_loopw [5] (fun i wr=>∃j:Nat,j≤n∧i= .int .i64 (j:Int)∧wr=W1∧Hid (∀q,q<j→V.mayB (ns[q]?.getD 0)=true)) (fun i _=>n-(intOf i).toNat)
 case atStart=>exact ⟨0,Nat.zero_le _,rfl,rfl,fun q hq=>absurd hq (Nat.not_lt_zero _)⟩
 case round=>
  obtain ⟨j,hj,rfl,rfl,HA⟩:=hrel
  by_cases hlt:j<n
  ·have g1:(j:Int)<(n:Int):=by omega
   have hjl:j<ns.length:=by have:=HN.out;omega
   obtain ⟨b,off,rfl,hb,hC⟩:∃b off,ao=some ⟨b,off,none⟩∧b<w.heap.size∧ICells w b off ns:=by
    obtain ⟨a',c',e',_,_,hz⟩:=HR.out
    injection e' with e1 _ _
    subst e1
    rcases hz with h | h
    ·rw [h] at hjl;simp at hjl
    ·exact h
   have z0:=hC.below hb bel j hjl
   generalize hy:ns[j]?.getD 0=y at *
   have HY:Hid (ns[j]?.getD 0=y):=hy
   clear hy hC
   have gj0:(0:Int)≤(j:Int):=by omega
   cases hm:V.mayB y with
   | true=>
    have HM:=V.zea y wr
    rw [hm] at HM
    go_wp2_with (first | (go_at_call 62;refine HM.mono ?_;rintro e w2 ⟨rfl,rfl⟩))
    refine ⟨⟨j+1,by omega,by go_num,by first | rfl | trivial,(show Hid _ from fun q hq=> ?_)⟩,by simp [intOf];omega⟩
    by_cases e:q=j
    ·subst e;rw [HY.out];exact hm
    ·exact HA.out q (by omega)
   | false=>
    exfalso
    have:=any_ints.2 ⟨j,hjl,by rw [HY.out];exact hm⟩
    rw [h4] at this
    cases this
  ·obtain rfl:j=n:=by omega
   have g1:¬(j:Int)<(j:Int):=by omega
   clear HA
   go_wp2_with fail
   go_ret
   exact ⟨rfl,bel⟩
theorem zIp (k:Int) (ao:Option Addr) (n c:Nat) (ns:List Int) (w:World) (hR0:IRow w (.slice ao n c) ns) (hn:ns.length=n) (h1:zbk k=true) (h2:k≠2) (h3:k≠3) (hc:cntB k n=true) (h4:anyB ns=false):
  Calls Tryz.prog 95 #[.agg #[.int .i64 k,.slice ao n c,.string {data:= #[]}]] w fun e w'=>e= .returned (.int .i64 0)∧Below w.heap.size w w':=by
 skip
 have hl:n≤9223372036854775807:=by obtain ⟨_,_,_,h,_⟩:=hR0;omega
 have bel:Below w.heap.size w (w.alloc (.cells #[.int .i64 k,.slice ao n c,.string {data:= #[]}] 114)):=(Below.refl _ w).alloc (Nat.le_refl _) _
 have hk:=(zb1 k).1 h1
 have hk8:¬8<k:=by omega
 have hk1:¬k<1:=by omega
 have hk3:¬k=3:=h3
 have HC:=zaq k
 rw [show cntD k=((cntK k:Nat):Int) by unfold cntD cntK;simp only [h2];repeat' split<;>simp_all] at HC
 have hk2:¬k=2:=h2
 rw [show cntK k=n by simp [cntB,hk2] at hc;omega] at HC
 have HR:Hid (IRow w (.slice ao n c) ns):=hR0
 have HN:Hid (ns.length=n):=hn
 clear hR0 hn
 clear hc h1 h2 hk
 go_enter Tryz.func95,Tryz.ntmps95
 go_wp2_with (first | (go_at_call 119;refine (HC _).mono ?_;rintro e w1 ⟨rfl,rfl⟩))
 have bx:FBox (w.alloc (.cells #[.int .i64 k,.slice ao n c,.string {data:= #[]}] 114)) w.heap.size k (.slice ao n c) {data:= #[]}:=FBox.new w k _ _
 generalize (w.alloc (.cells #[.int .i64 k,.slice ao n c,.string {data:= #[]}] 114))=W1 at *
 have f0:=bx.c0
 have f1:=bx.c1
 have f2:=bx.c2
 go_loopw [5] (fun i wr=>∃j:Nat,j≤n∧i= .int .i64 (j:Int)∧wr=W1∧Hid (∀q,q<j→V.mayB (ns[q]?.getD 0)=true)) (fun i _=>n-(intOf i).toNat)
 case atStart=>exact ⟨0,Nat.zero_le _,rfl,rfl,fun q hq=>absurd hq (Nat.not_lt_zero _)⟩
 case round=>
  obtain ⟨j,hj,rfl,rfl,HA⟩:=hrel
  by_cases hlt:j<n
  ·have g1:(j:Int)<(n:Int):=by omega
   have hjl:j<ns.length:=by have:=HN.out;omega
   obtain ⟨b,off,rfl,hb,hC⟩:∃b off,ao=some ⟨b,off,none⟩∧b<w.heap.size∧ICells w b off ns:=by
    obtain ⟨a',c',e',_,_,hz⟩:=HR.out
    injection e' with e1 _ _
    subst e1
    rcases hz with h | h
    ·rw [h] at hjl;simp at hjl
    ·exact h
   have z0:=hC.below hb bel j hjl
   generalize hy:ns[j]?.getD 0=y at *
   have HY:Hid (ns[j]?.getD 0=y):=hy
   clear hy hC
   have gj0:(0:Int)≤(j:Int):=by omega
   cases hm:V.mayB y with
   | true=>
    have HM:=V.zea y wr
    rw [hm] at HM
    go_wp2_with (first | (go_at_call 62;refine HM.mono ?_;rintro e w2 ⟨rfl,rfl⟩))
    refine ⟨⟨j+1,by omega,by go_num,by first | rfl | trivial,(show Hid _ from fun q hq=> ?_)⟩,by simp [intOf];omega⟩
    by_cases e:q=j
    ·subst e;rw [HY.out];exact hm
    ·exact HA.out q (by omega)
   | false=>
    exfalso
    have:=any_ints.2 ⟨j,hjl,by rw [HY.out];exact hm⟩
    rw [h4] at this
    cases this
  ·obtain rfl:j=n:=by omega
   have g1:¬(j:Int)<(j:Int):=by omega
   clear HA
   go_wp2_with fail
   go_ret
   exact ⟨rfl,bel⟩
theorem zIe (ao:Option Addr) (n c:Nat) (ns:List Int) (w:World) (hR0:IRow w (.slice ao n c) ns) (hn:ns.length=n) (M:Nat) (hM:n=2*M) (hM1:1≤M) (hM12:M≤12) (h4:anyB ns=false):
  Calls Tryz.prog 95 #[.agg #[.int .i64 2,.slice ao n c,.string {data:= #[]}]] w fun e w'=>e= .returned (.int .i64 (ackF (chk (rgs ns))))∧Below w.heap.size w w':=by
 skip
 have hl:n≤9223372036854775807:=by obtain ⟨_,_,_,h,_⟩:=hR0;omega
 have bel:Below w.heap.size w (w.alloc (.cells #[.int .i64 2,.slice ao n c,.string {data:= #[]}] 114)):=(Below.refl _ w).alloc (Nat.le_refl _) _
 have HC:=zaq 2
 have gz:¬(n:Int)=0:=by omega
 have gz':((n:Int)==0)=false:=by simp;omega
 have g24:¬(24:Int)<(n:Int):=by omega
 have gm:(n:Int).tmod 2=0:=by rw [Int.tmod_eq_emod_of_nonneg (by omega)];omega
 have HD:=zgz (.slice ao n c) ns M (w.alloc (.cells #[.int .i64 2,.slice ao n c,.string {data:= #[]}] 114)) (hR0.below bel) (by omega) hM1 hM12
 have HX0:=fun W v (h:Row W v (rgs ns))=>zmo v (rgs ns) W h
 have HR:Hid (IRow w (.slice ao n c) ns):=hR0
 have HN:Hid (ns.length=n):=hn
 clear hR0 hn
 clear hM
 go_enter Tryz.func95,Tryz.ntmps95
 go_wp2_with (first | (go_at_call 119;refine (HC _).mono ?_;rintro e w1 ⟨rfl,rfl⟩))
 have bx:FBox (w.alloc (.cells #[.int .i64 2,.slice ao n c,.string {data:= #[]}] 114)) w.heap.size 2 (.slice ao n c) {data:= #[]}:=FBox.new w 2 _ _
 generalize (w.alloc (.cells #[.int .i64 2,.slice ao n c,.string {data:= #[]}] 114))=W1 at *
 have f0:=bx.c0
 have f1:=bx.c1
 have f2:=bx.c2
 go_loopw [5] (fun i wr=>∃j:Nat,j≤n∧i= .int .i64 (j:Int)∧wr=W1∧Hid (∀q,q<j→V.mayB (ns[q]?.getD 0)=true)) (fun i _=>n-(intOf i).toNat)
 case atStart=>exact ⟨0,Nat.zero_le _,rfl,rfl,fun q hq=>absurd hq (Nat.not_lt_zero _)⟩
 case round=>
  obtain ⟨j,hj,rfl,rfl,HA⟩:=hrel
  by_cases hlt:j<n
  ·have g1:(j:Int)<(n:Int):=by omega
   have hjl:j<ns.length:=by have:=HN.out;omega
   obtain ⟨b,off,rfl,hb,hC⟩:∃b off,ao=some ⟨b,off,none⟩∧b<w.heap.size∧ICells w b off ns:=by
    obtain ⟨a',c',e',_,_,hz⟩:=HR.out
    injection e' with e1 _ _
    subst e1
    rcases hz with h | h
    ·rw [h] at hjl;simp at hjl
    ·exact h
   have z0:=hC.below hb bel j hjl
   generalize hy:ns[j]?.getD 0=y at *
   have HY:Hid (ns[j]?.getD 0=y):=hy
   clear hy hC
   have gj0:(0:Int)≤(j:Int):=by omega
   cases hm:V.mayB y with
   | true=>
    have HM:=V.zea y wr
    rw [hm] at HM
    go_wp2_with (first | (go_at_call 62;refine HM.mono ?_;rintro e w2 ⟨rfl,rfl⟩))
    refine ⟨⟨j+1,by omega,by go_num,by first | rfl | trivial,(show Hid _ from fun q hq=> ?_)⟩,by simp [intOf];omega⟩
    by_cases e:q=j
    ·subst e;rw [HY.out];exact hm
    ·exact HA.out q (by omega)
   | false=>
    exfalso
    have:=any_ints.2 ⟨j,hjl,by rw [HY.out];exact hm⟩
    rw [h4] at this
    cases this
  ·obtain rfl:j=n:=by omega
   have g1:¬(j:Int)<(j:Int):=by omega
   clear HA
   obtain ⟨r,hre⟩:∃r,chk (rgs ns)=r:=⟨_,rfl⟩
   rw [hre] at HX0
   have HRE:Hid (chk (rgs ns)=r):=hre
   clear hre
   go_wp2_with fail
   refine HD.mono ?_
   rintro e w3 ⟨v3,rfl,hR3,hb3⟩
   have hB3:=bel.trans (hb3.mono bel.size)
   have HX:=HX0 _ _ hR3
   obtain ⟨a3,c3,hv3,_⟩:=id hR3
   subst hv3
   clear HX0 HD hR3
   by_cases hr:r=0
   ·subst hr
    go_wp2_with (first | (go_at_call 120;refine HX.mono ?_;rintro e w4 ⟨rfl,hb4⟩))
    go_ret
    exact ⟨by rw [HRE.out];rfl,hB3.trans (hb4.mono hB3.size)⟩
   ·go_wp2_with (first | (go_at_call 120;refine HX.mono ?_;rintro e w4 ⟨rfl,hb4⟩))
    go_ret
    exact ⟨by rw [HRE.out,show ackF r=3 by simp [ackF,hr]];rfl,hB3.trans (hb4.mono hB3.size)⟩
theorem znx (k:Int) (v:Value) (d:ByteArray) (ns:List Int) (w:World) (hR:IRow w v ns) (hd:d.size≤maxLen):
  Calls Tryz.prog 95 #[.agg #[.int .i64 k,v,.string d]] w fun e w'=>e= .returned (.int .i64 (frF k ns d))∧Below w.heap.size w w':=by
 have hR':=hR
 obtain ⟨ao,c,rfl,_⟩:=hR
 unfold frF
 cases h1:zbk k with
 | false=>
  rw [if_pos rfl]
  by_cases hk:k<1
  ·exact zI5 k ao _ c d ns w hR' rfl hd hk
  ·exact zIx k ao _ c d ns w hR' rfl hd (by simp [zbk] at h1;omega)
 | true=>
  rw [if_neg (by simp)]
  cases h2:cntB k ns.length with
  | false=>
   rw [if_pos rfl]
   by_cases e2:k=2
   ·subst e2
    simp only [cntB,if_true,decide_eq_false_iff_not] at h2
    by_cases z0:ns.length=0
    ·exact zI9 ao _ c d ns w hR' rfl hd z0
    ·by_cases z1:ns.length%2=1
     ·exact zI3 ao _ c d ns w hR' rfl hd z0 z1
     ·exact zId ao _ c d ns w hR' rfl hd z0 (by omega) (by omega)
   ·exact zI7 k ao _ c d ns w hR' rfl hd h1 e2 h2
  | true=>
   rw [if_neg (by simp)]
   by_cases h3:k=3
   ·subst h3
    rw [if_neg (by simp)]
    have hn:ns.length=1:=by simpa [cntB,cntK] using h2
    cases h4:anyB ns with
    | true=>rw [if_pos rfl];exact zI2 ao _ c d ns w hR' rfl hd hn h4
    | false=>
     rw [if_neg (by simp)]
     by_cases h5:20<d.size
     ·rw [if_pos h5];exact zI0 ao _ c d ns w hR' rfl hd hn h4 h5
     ·rw [if_neg h5,if_neg (by simp)];exact zI4 ao _ c d ns w hR' rfl hd hn h4 (by omega)
   ·by_cases h0:d.size=0
    ·obtain rfl:=zc1 h0
     rw [if_neg (by simp [h0])]
     by_cases e2:k=2
     ·subst e2
      obtain ⟨M,hM,hM1,hM12⟩:=zey h2
      cases h4:anyB ns with
      | true=>rw [if_pos rfl];exact zIi ao _ c ns w hR' rfl M hM hM1 hM12 h4
      | false=>
       rw [if_neg (by simp),if_neg (by rw [h0];omega)]
       refine (zIe ao _ c ns w hR' rfl M hM hM1 hM12 h4).mono ?_
       rintro e w' ⟨rfl,hb⟩
       refine ⟨?_,hb⟩
       by_cases hr:chk (rgs ns)=0
       ·rw [if_neg (by simp [hr]),hr];rfl
       ·rw [if_pos ⟨rfl,hr⟩,show ackF (chk (rgs ns))=3 by simp [ackF,hr]]
     ·cases h4:anyB ns with
      | true=>rw [if_pos rfl];exact zIr k ao _ c ns w hR' rfl h1 e2 h3 h2 h4
      | false=>
       rw [if_neg (by simp),if_neg (by rw [h0];omega),if_neg (by simp [e2])]
       exact zIp k ao _ c ns w hR' rfl h1 e2 h3 h2 h4
    ·rw [if_pos ⟨h3,h0⟩]
     by_cases e2:k=2
     ·subst e2
      obtain ⟨M,hM,hM1,hM12⟩:=zey h2
      exact zIk ao _ c d ns w hR' rfl hd M hM hM1 hM12 h0
     ·exact zIm k ao _ c d ns w hR' rfl hd h1 e2 h3 h2 h0
theorem zmq (s:ByteArray):s++({data:= #[]}:ByteArray)=s:=by
 apply ByteArray.ext
 simp
theorem db_2 (ao:Option Addr) (n c M:Nat) (d:ByteArray) (ns:List Int) (w:World) (hR0:IRow w (.slice ao n c) ns) (hn:ns.length=n) (hM:n=2*M) (hM1:1≤M) (hM12:M≤12) (hg:Good (rgs ns)) (hne:rgs ns≠ []):
  Calls Tryz.prog 96 #[.agg #[.int .i64 2,.slice ao n c,.string d]] w fun e w'=>e= .returned (.string (strOfNums [2]++strOfNums (enc (rgs ns))))∧Below w.heap.size w w':=by
 have bel:Below w.heap.size w (w.alloc (.cells #[.int .i64 2,.slice ao n c,.string d] 114)):=(Below.refl _ w).alloc (Nat.le_refl _) _
 have hcv:=V.zb7 [2] (w.alloc (.cells #[.int .i64 2,.slice ao n c,.string d] 114)) #[.int .u8 2] rfl
 simp only [List.length_cons,List.length_nil,Nat.reduceAdd,World.size_alloc] at hcv
 have s1:(strOfNums [2]).size=1:=by rw [strOfNums_size];rfl
 have bel2:Below w.heap.size w ((w.alloc (.cells #[.int .i64 2,.slice ao n c,.string d] 114)).alloc (.cells #[.int .u8 2] 5)):=bel.alloc bel.size _
 have bx2:FBox ((w.alloc (.cells #[.int .i64 2,.slice ao n c,.string d] 114)).alloc (.cells #[.int .u8 2] 5)) w.heap.size 2 (.slice ao n c) d:=(FBox.new w 2 _ _).alloc _
 have HD:=zgz (.slice ao n c) ns M ((w.alloc (.cells #[.int .i64 2,.slice ao n c,.string d] 114)).alloc (.cells #[.int .u8 2] 5)) (hR0.below bel2) (by omega) hM1 hM12
 have HA0:=fun W v (h:Row W v (rgs ns))=>zto v (rgs ns) W h hg hne
 have es:=zCi hg hne
 generalize strOfNums (enc (rgs ns))=se at *
 generalize strOfNums [2]=sk at *
 have t1:sk.size+se.size≤9223372036854775807:=by omega
 clear hM hn hR0 hg hne
 go_enter Tryz.func96,Tryz.ntmps96
 go_wp2_with fail
 refine HD.mono ?_
 rintro e w3 ⟨v3,rfl,hR3,hb3⟩
 have hB3:=bel2.trans (hb3.mono bel2.size)
 have HX:=HA0 _ _ hR3
 obtain ⟨a3,c3,hv3,_⟩:=id hR3
 subst hv3
 clear HA0 HD hR3
 go_wp2_with (first | (go_at_call 121;refine HX.mono ?_;rintro e w4 ⟨rfl,hb4⟩))
 go_ret
 exact ⟨rfl,hB3.trans (hb4.mono hB3.size)⟩
theorem db_3 (ao:Option Addr) (n c:Nat) (d:ByteArray) (ns:List Int) (w:World) (hR0:IRow w (.slice ao n c) ns) (hn:ns.length=n) (hn2:n≤2) (hm:Mays ns) (hd:d.size≤20):
  Calls Tryz.prog 96 #[.agg #[.int .i64 3,.slice ao n c,.string d]] w fun e w'=>e= .returned (.string (strOfNums [3]++strOfNums (ns.flatMap V.nums)++strOfNums (V.nums (d.size:Int))++d))∧Below w.heap.size w w':=by
 have bel:Below w.heap.size w (w.alloc (.cells #[.int .i64 3,.slice ao n c,.string d] 114)):=(Below.refl _ w).alloc (Nat.le_refl _) _
 have hcv:=V.zb7 [3] (w.alloc (.cells #[.int .i64 3,.slice ao n c,.string d] 114)) #[.int .u8 3] rfl
 simp only [List.length_cons,List.length_nil,Nat.reduceAdd,World.size_alloc] at hcv
 have s1:(strOfNums [3]).size=1:=by rw [strOfNums_size];rfl
 have bel2:Below w.heap.size w ((w.alloc (.cells #[.int .i64 3,.slice ao n c,.string d] 114)).alloc (.cells #[.int .u8 3] 5)):=bel.alloc bel.size _
 have bx2:FBox ((w.alloc (.cells #[.int .i64 3,.slice ao n c,.string d] 114)).alloc (.cells #[.int .u8 3] 5)) w.heap.size 3 (.slice ao n c) d:=(FBox.new w 3 _ _).alloc _
 have HR:Hid (IRow w (.slice ao n c) ns):=hR0
 have HN:Hid (ns.length=n):=hn
 have HN2:Hid (n≤2):=hn2
 have HM:Hid (Mays ns):=hm
 generalize strOfNums [3]=sk at *
 clear hn hR0 hn2 hm
 go_enter Tryz.func96,Tryz.ntmps96
 go_wp2_with fail
 generalize (w.alloc (.cells #[.int .i64 3,.slice ao n c,.string d] 114)).alloc (.cells #[.int .u8 3] 5)=W2 at *
 go_loopw [4,6] (fun sv i wr=>∃j:Nat,j≤n∧i= .int .i64 (j:Int)∧sv= .string (sk++strOfNums ((ns.take j).flatMap V.nums))∧FBox wr w.heap.size 3 (.slice ao n c) d∧Below w.heap.size w wr) (fun _ i _=>n-(intOf i).toNat)
 case atStart=>exact ⟨0,Nat.zero_le _,rfl,by rw [List.take_zero,List.flatMap_nil,zCz,zmq],bx2,bel2⟩
 case round=>
  obtain ⟨j,hj,rfl,rfl,bx,hB⟩:=hrel
  have f0:=bx.c0
  have f1:=bx.c1
  have f2:=bx.c2
  have hj2:j≤2:=by have:=HN2.out;omega
  have hsz:(sk++strOfNums ((ns.take j).flatMap V.nums)).size≤9:=by
   have h1:=zfa (ns.take j)
   have h2:=List.length_take_le j ns
   rw [ByteArray.size_append,strOfNums_size]
   have h3:=HN.out
   have h4:=HN2.out
   rw [List.length_take] at h1
   omega
  by_cases hlt:j<n
  ·have g1:(j:Int)<(n:Int):=by omega
   have gj0:(0:Int)≤(j:Int):=by omega
   have hjl:j<ns.length:=by have:=HN.out;omega
   obtain ⟨b,off,rfl,hb,hC⟩:∃b off,ao=some ⟨b,off,none⟩∧b<w.heap.size∧ICells w b off ns:=by
    obtain ⟨a',c',e',_,_,hz⟩:=HR.out
    injection e' with e1 _ _
    subst e1
    rcases hz with h | h
    ·rw [h] at hjl;simp at hjl
    ·exact h
   have z0:=hC.below hb hB j hjl
   have HT:Hid (sk++strOfNums ((ns.take j).flatMap V.nums)++strOfNums (V.nums (ns[j]?.getD 0))=sk++strOfNums ((ns.take (j+1)).flatMap V.nums)):=by
    show _=_
    rw [V.zgi ns j hjl,List.flatMap_append,zhx,ByteArray.append_assoc]
    simp
   have hmy:V.mayB (ns[j]?.getD 0)=true:=by rw [List.getElem?_eq_getElem hjl];exact (zas _).2 (HM.out _ (List.getElem_mem hjl))
   generalize ns[j]?.getD 0=y at *
   have HB:=V.ze8 y wr hmy
   have s4:=zon y
   generalize strOfNums (V.nums y)=sy at *
   generalize sk++strOfNums ((ns.take j).flatMap V.nums)=sj at *
   have t1:sj.size+sy.size≤9223372036854775807:=by omega
   clear hC hjl hmy
   go_wp2_with (first | (go_at_call 122;refine HB.mono ?_;rintro e w4 ⟨rfl,hb4⟩))
   exact ⟨⟨j+1,by omega,by go_num,by rw [HT.out],bx.below hb4 bx.lt,hB.trans (hb4.mono hB.size)⟩,by simp [intOf];omega⟩
  ·obtain rfl:j=n:=by omega
   have g1:¬(j:Int)<(j:Int):=by omega
   have HE:Hid (ns.take j=ns):=by show _=_;rw [←HN.out,List.take_length]
   rw [HE.out] at hsz ⊢
   clear HE
   have hmd:V.mayB (d.size:Int)=true:=(zas _).2 (by omega)
   have HB:=V.ze8 (d.size:Int) wr hmd
   have s4:=zon (d.size:Int)
   obtain ⟨sd,hsd⟩:∃sd,strOfNums (V.nums (d.size:Int))=sd:=⟨_,rfl⟩
   rw [hsd] at HB s4
   obtain ⟨sj,hsj⟩:∃sj,sk++strOfNums (ns.flatMap V.nums)=sj:=⟨_,rfl⟩
   rw [hsj] at hsz ⊢
   have HSD:Hid (sk++strOfNums (ns.flatMap V.nums)++strOfNums (V.nums (d.size:Int))++d=sj++sd++d):=by show _=_;rw [hsj,hsd]
   clear hsd hsj
   have t1:sj.size+sd.size≤9223372036854775807:=by omega
   have t12:(sj++sd).size≤13:=by rw [ByteArray.size_append];omega
   have t2:(sj++sd).size+d.size≤9223372036854775807:=by omega
   have q2:∀W',Below wr.heap.size wr W'→W'.cell? ⟨w.heap.size,2,none⟩=some (.string d):=fun W' hb'=>(bx.below hb' bx.lt).c2
   go_wp2_with fail
   refine HB.mono ?_
   rintro e w4 ⟨rfl,hb4⟩
   have y2:=q2 _ hb4
   clear q2
   go_wp2_with fail
   go_ret
   exact ⟨by rw [HSD.out];rfl,hB.trans (hb4.mono hB.size)⟩
theorem db_o (k:Int) (ao:Option Addr) (n c:Nat) (d:ByteArray) (ns:List Int) (w:World) (hR0:IRow w (.slice ao n c) ns) (hn:ns.length=n) (hn2:n≤2) (hm:Mays ns) (h2:k≠2) (h3:k≠3) (hk:1≤k∧k≤8):
  Calls Tryz.prog 96 #[.agg #[.int .i64 k,.slice ao n c,.string d]] w fun e w'=>e= .returned (.string (strOfNums [k]++strOfNums (ns.flatMap V.nums)))∧Below w.heap.size w w':=by
 have bel:Below w.heap.size w (w.alloc (.cells #[.int .i64 k,.slice ao n c,.string d] 114)):=(Below.refl _ w).alloc (Nat.le_refl _) _
 have hcv:=V.zb7 [k] (w.alloc (.cells #[.int .i64 k,.slice ao n c,.string d] 114)) #[.int .u8 k] rfl
 simp only [List.length_cons,List.length_nil,Nat.reduceAdd,World.size_alloc] at hcv
 have s1:(strOfNums [k]).size=1:=by rw [strOfNums_size];rfl
 have bel2:Below w.heap.size w ((w.alloc (.cells #[.int .i64 k,.slice ao n c,.string d] 114)).alloc (.cells #[.int .u8 k] 5)):=bel.alloc bel.size _
 have bx2:FBox ((w.alloc (.cells #[.int .i64 k,.slice ao n c,.string d] 114)).alloc (.cells #[.int .u8 k] 5)) w.heap.size k (.slice ao n c) d:=(FBox.new w k _ _).alloc _
 have HR:Hid (IRow w (.slice ao n c) ns):=hR0
 have HN:Hid (ns.length=n):=hn
 have HN2:Hid (n≤2):=hn2
 have HM:Hid (Mays ns):=hm
 have hk2:¬k=2:=h2
 have hkb:(k==2)=false:=by simp [h2]
 have hkc:(k==3)=false:=by simp [h3]
 have hk3:¬k=3:=h3
 generalize strOfNums [k]=sk at *
 clear hn hR0 hn2 hm
 go_enter Tryz.func96,Tryz.ntmps96
 go_wp2_with fail
 generalize (w.alloc (.cells #[.int .i64 k,.slice ao n c,.string d] 114)).alloc (.cells #[.int .u8 k] 5)=W2 at *
 go_loopw [4,6] (fun sv i wr=>∃j:Nat,j≤n∧i= .int .i64 (j:Int)∧sv= .string (sk++strOfNums ((ns.take j).flatMap V.nums))∧FBox wr w.heap.size k (.slice ao n c) d∧Below w.heap.size w wr) (fun _ i _=>n-(intOf i).toNat)
 case atStart=>exact ⟨0,Nat.zero_le _,rfl,by rw [List.take_zero,List.flatMap_nil,zCz,zmq],bx2,bel2⟩
 case round=>
  obtain ⟨j,hj,rfl,rfl,bx,hB⟩:=hrel
  have f0:=bx.c0
  have f1:=bx.c1
  have f2:=bx.c2
  have hj2:j≤2:=by have:=HN2.out;omega
  have hsz:(sk++strOfNums ((ns.take j).flatMap V.nums)).size≤9:=by
   have h1:=zfa (ns.take j)
   have h2:=List.length_take_le j ns
   rw [ByteArray.size_append,strOfNums_size]
   have h3:=HN.out
   have h4:=HN2.out
   rw [List.length_take] at h1
   omega
  by_cases hlt:j<n
  ·have g1:(j:Int)<(n:Int):=by omega
   have gj0:(0:Int)≤(j:Int):=by omega
   have hjl:j<ns.length:=by have:=HN.out;omega
   obtain ⟨b,off,rfl,hb,hC⟩:∃b off,ao=some ⟨b,off,none⟩∧b<w.heap.size∧ICells w b off ns:=by
    obtain ⟨a',c',e',_,_,hz⟩:=HR.out
    injection e' with e1 _ _
    subst e1
    rcases hz with h | h
    ·rw [h] at hjl;simp at hjl
    ·exact h
   have z0:=hC.below hb hB j hjl
   have HT:Hid (sk++strOfNums ((ns.take j).flatMap V.nums)++strOfNums (V.nums (ns[j]?.getD 0))=sk++strOfNums ((ns.take (j+1)).flatMap V.nums)):=by
    show _=_
    rw [V.zgi ns j hjl,List.flatMap_append,zhx,ByteArray.append_assoc]
    simp
   have hmy:V.mayB (ns[j]?.getD 0)=true:=by rw [List.getElem?_eq_getElem hjl];exact (zas _).2 (HM.out _ (List.getElem_mem hjl))
   generalize ns[j]?.getD 0=y at *
   have HB:=V.ze8 y wr hmy
   have s4:=zon y
   generalize strOfNums (V.nums y)=sy at *
   generalize sk++strOfNums ((ns.take j).flatMap V.nums)=sj at *
   have t1:sj.size+sy.size≤9223372036854775807:=by omega
   clear hC hjl hmy
   go_wp2_with (first | (go_at_call 122;refine HB.mono ?_;rintro e w4 ⟨rfl,hb4⟩))
   exact ⟨⟨j+1,by omega,by go_num,by rw [HT.out],bx.below hb4 bx.lt,hB.trans (hb4.mono hB.size)⟩,by simp [intOf];omega⟩
  ·obtain rfl:j=n:=by omega
   have g1:¬(j:Int)<(j:Int):=by omega
   have HE:Hid (ns.take j=ns):=by show _=_;rw [←HN.out,List.take_length]
   rw [HE.out] at hsz ⊢
   clear HE
   go_wp2_with fail
   go_ret
   exact ⟨rfl,hB⟩
theorem zog (k:Int) (v:Value) (d:ByteArray) (ns:List Int) (w:World) (hR:IRow w v ns) (h:frF k ns d=0):
  Calls Tryz.prog 96 #[.agg #[.int .i64 k,v,.string d]] w fun e w'=>e= .returned (.string (frS k ns d))∧Below w.heap.size w w':=by
 obtain ⟨h1,h2,h3,h4,h5,h6⟩:=zdj h
 have hk:=(zb1 k).1 h1
 have hR':=hR
 obtain ⟨ao,c,rfl,hl,hc,hz⟩:=hR
 by_cases e2:k=2
 ·subst e2
  obtain ⟨M,hM,hM1,hM12⟩:=zey h2
  obtain rfl:=zc1 (h3 (by decide))
  rw [show frS 2 ns {data:= #[]}=strOfNums [2]++strOfNums (enc (rgs ns)) by unfold frS;rw [show mid 2 ns {data:= #[]}=enc (rgs ns) by simp [mid]];exact zmq _]
  exact db_2 ao _ c M _ ns w hR' rfl hM hM1 hM12 (h6 rfl) (fun e=>by have:=zcr M ns hM;rw [e] at this;simp at this;omega)
 ·have hn:ns.length≤2:=by
   have:ns.length=cntK k:=by simpa [cntB,e2] using h2
   rw [this];unfold cntK;split
   ·omega
   ·split<;>omega
  by_cases e3:k=3
  ·subst e3
   rw [show frS 3 ns d=strOfNums [3]++strOfNums (ns.flatMap V.nums)++strOfNums (V.nums (d.size:Int))++d by unfold frS;rw [show mid 3 ns d=ns.flatMap V.nums++V.nums (d.size:Int) by simp [mid],zhx,←ByteArray.append_assoc]]
   exact db_3 ao _ c d ns w hR' rfl hn h4 h5
  ·obtain rfl:=zc1 (h3 e3)
   rw [show frS k ns {data:= #[]}=strOfNums [k]++strOfNums (ns.flatMap V.nums) by unfold frS;rw [show mid k ns {data:= #[]}=ns.flatMap V.nums by simp [mid,e2,e3]];exact zmq _]
   exact db_o k ao _ c _ ns w hR' rfl hn h4 e2 e3 hk
theorem zcw {w:World} {B e size n:Nat} {v:Value} {xs:List Value} (h:w.ownsRow B e size v n xs):∃a c,v= .slice a n c:=by
 rcases h.2 with ⟨rfl,h1⟩ | ⟨g,cap,cur,rfl,_⟩
 ·exact ⟨none,0,by rw [h1]⟩
 ·exact ⟨_,cap,rfl⟩
theorem FBox.kept {W W':World} {row:Option Nat} {B:Nat} {k:Int} {v:Value} {d:ByteArray} (h:FBox W B k v d) (hg:W.grownBy W' row) (hne:some B≠row):FBox W' B k v d:=(hg.block B h.lt hne).trans h
theorem FBox.alloc' {W:World} {B:Nat} {k:Int} {v:Value} {d:ByteArray} (h:FBox W B k v d) (o:Obj):FBox (W.drew.alloc o) B k v d:=FBox.alloc (W:=W.drew) h o
theorem dr_a (w:World):Calls Tryz.prog 98 #[.string {data:= #[]}] w fun e w'=>e= .returned (.tuple #[zd4,.int .i64 0,.bool false])∧Below w.heap.size w w':=by
 go_enter Tryz.func98,Tryz.ntmps98
 go_wp2_with fail
 refine bodyPost_ret (v:= .tuple #[zd4,.int .i64 0,.bool false]) ?_ rfl ⟨rfl,?_⟩
 ·rw [zaj rfl];go_simp
 ·exact (Below.refl _ w).alloc (Nat.le_refl _) _
theorem zIg (s:ByteArray) (k:Int) (l:List Int) (w:World) (hs:V.ints s=k::l) (h1:k<1):Calls Tryz.prog 98 #[.string s] w fun e w'=>e= .returned (.tuple #[zd4,.int .i64 0,.bool false])∧Below w.heap.size w w':=by
 have hne:(s.toList== [])=false:=zb0 (by rw [←zaa,hs];simp)
 have hix:=zct s k l hs
 have hk0:=zab s k (by rw [hs];simp)
 clear hs
 go_enter Tryz.func98,Tryz.ntmps98
 go_wp2_with fail
 refine bodyPost_ret (v:= .tuple #[zd4,.int .i64 0,.bool false]) ?_ rfl ⟨rfl,?_⟩
 ·rw [zaj rfl];go_simp
 ·exact (Below.refl _ w).alloc (Nat.le_refl _) _
theorem zIf (s:ByteArray) (k:Int) (l:List Int) (w:World) (hs:V.ints s=k::l) (h1:8<k):Calls Tryz.prog 98 #[.string s] w fun e w'=>e= .returned (.tuple #[zd4,.int .i64 0,.bool false])∧Below w.heap.size w w':=by
 have hne:(s.toList== [])=false:=zb0 (by rw [←zaa,hs];simp)
 have hix:=zct s k l hs
 have hk0:=zab s k (by rw [hs];simp)
 have hk1:¬k<1:=by omega
 clear hs
 go_enter Tryz.func98,Tryz.ntmps98
 go_wp2_with fail
 refine bodyPost_ret (v:= .tuple #[zd4,.int .i64 0,.bool false]) ?_ rfl ⟨rfl,?_⟩
 ·rw [zaj rfl];go_simp
 ·exact (Below.refl _ w).alloc (Nat.le_refl _) _
theorem zGx (s:ByteArray) (l:List Int) (w:World) (hl:s.size≤maxLen) (hs:V.ints s=2::l) (h2:zbe l=none):Calls Tryz.prog 98 #[.string s] w fun e w'=>e= .returned (.tuple #[zd4,.int .i64 0,.bool false])∧Below w.heap.size w w':=by
 have hne:(s.toList== [])=false:=zb0 (by rw [←zaa,hs];simp)
 have hix:=zct s 2 l hs
 have hk0:=zab s 2 (by rw [hs];simp)
 have hsz:s.size=l.length+1:=by rw [←zaa,hs];rfl
 unfold maxLen at hl
 have hB2:Below w.heap.size w ((w.alloc (.cells #[.int .i64 0,.slice none 0 0,.string {data:= #[]}] 114)).alloc (.cells #[.int .i64 2,.slice none 0 0,.string {data:= #[]}] 114)):=((Below.refl _ w).alloc (Nat.le_refl _) _).alloc (by simp) _
 have bR:FBox ((w.alloc (.cells #[.int .i64 0,.slice none 0 0,.string {data:= #[]}] 114)).alloc (.cells #[.int .i64 2,.slice none 0 0,.string {data:= #[]}] 114)) w.heap.size 0 (.slice none 0 0) {data:= #[]}:=(FBox.new w 0 _ _).alloc _
 have bF:FBox ((w.alloc (.cells #[.int .i64 0,.slice none 0 0,.string {data:= #[]}] 114)).alloc (.cells #[.int .i64 2,.slice none 0 0,.string {data:= #[]}] 114)) (w.heap.size+1) 2 (.slice none 0 0) {data:= #[]}:=by
  have:=FBox.new (w.alloc (.cells #[.int .i64 0,.slice none 0 0,.string {data:= #[]}] 114)) 2 (.slice none 0 0) {data:= #[]}
  rwa [World.size_alloc] at this
 have hs2:((w.alloc (.cells #[.int .i64 0,.slice none 0 0,.string {data:= #[]}] 114)).alloc (.cells #[.int .i64 2,.slice none 0 0,.string {data:= #[]}] 114)).heap.size=w.heap.size+2:=by simp
 have hsl:∀W,(Instr.slice 9 (.string s) (some (.int .i64 1)) none none).run Tryz.prog W= .ok (.string (s.extract 1 s.size)) W:=zbm s 1 (by omega) hl
 have hid:=zae s 1 (by omega)
 rw [hs] at hid
 simp only [List.drop_succ_cons,List.drop_zero] at hid
 have hr1:(s.extract 1 s.size).size≤maxLen:=by unfold maxLen;rw [ByteArray.size_extract];omega
 generalize s.extract 1 s.size=r1 at *
 have HN:∀W,Calls Tryz.prog 123 #[.string r1] W fun e w'=>e= .returned (.tuple #[.slice none 0 0,.int .i64 0,.bool false])∧Below W.heap.size W w':=by
  intro W
  refine (zi2 r1 W hr1).mono ?_
  rintro e w' ⟨⟨_,he⟩ | ⟨zs,v,A,h3,_⟩,hb⟩
  ·exact ⟨he,hb⟩
  ·rw [hid,h2] at h3;cases h3
 clear hs hl hsz hid hr1 h2
 go_enter Tryz.func98,Tryz.ntmps98
 go_wp2_with fail
 generalize ((w.alloc (.cells #[.int .i64 0,.slice none 0 0,.string {data:= #[]}] 114)).alloc (.cells #[.int .i64 2,.slice none 0 0,.string {data:= #[]}] 114))=W2 at *
 refine (HN W2).mono ?_
 rintro e w3 ⟨rfl,hb3⟩
 have b4:=bR.below hb3 bR.lt
 have hB3:=hB2.trans (hb3.mono hB2.size)
 clear HN hb3 bR bF hB2 hs2
 have c40:=b4.c0
 have c41:=b4.c1
 have c42:=b4.c2
 have z0:=b4.fz 0
 have z1:=b4.fz 1
 have z2:=b4.fz 2
 go_wp2_with fail
 refine bodyPost_ret (v:= .tuple #[zd4,.int .i64 0,.bool false]) ?_ rfl ⟨rfl,?_⟩
 ·rw [zaj rfl];go_simp
 ·first | exact ((hB3.setCell (Nat.le_refl _) _).setCell (Nat.le_refl _) _).setCell (Nat.le_refl _) _ | exact hB3
theorem zGe (s:ByteArray) (l:List Int) (w:World) (hl:s.size≤maxLen) (hs:V.ints s=2::l) (zs:List R) (A N:Nat) (h2:zbe l=some (zs,A)) (hz:zs.length≤12) (hA:A≤l.length) (hN:N=1+A):Calls Tryz.prog 98 #[.string s] w fun e w'=>∃v,e= .returned (.tuple #[.agg #[.int .i64 2,v,.string {data:= #[]}],.int .i64 (N:Int),.bool true])∧OwnI w' w.heap.size v (unr zs)∧Below w.heap.size w w':=by
 have hne:(s.toList== [])=false:=zb0 (by rw [←zaa,hs];simp)
 have hix:=zct s 2 l hs
 have hk0:=zab s 2 (by rw [hs];simp)
 have hsz:s.size=l.length+1:=by rw [←zaa,hs];rfl
 unfold maxLen at hl
 have hB2:Below w.heap.size w ((w.alloc (.cells #[.int .i64 0,.slice none 0 0,.string {data:= #[]}] 114)).alloc (.cells #[.int .i64 2,.slice none 0 0,.string {data:= #[]}] 114)):=((Below.refl _ w).alloc (Nat.le_refl _) _).alloc (by simp) _
 have bR:FBox ((w.alloc (.cells #[.int .i64 0,.slice none 0 0,.string {data:= #[]}] 114)).alloc (.cells #[.int .i64 2,.slice none 0 0,.string {data:= #[]}] 114)) w.heap.size 0 (.slice none 0 0) {data:= #[]}:=(FBox.new w 0 _ _).alloc _
 have bF:FBox ((w.alloc (.cells #[.int .i64 0,.slice none 0 0,.string {data:= #[]}] 114)).alloc (.cells #[.int .i64 2,.slice none 0 0,.string {data:= #[]}] 114)) (w.heap.size+1) 2 (.slice none 0 0) {data:= #[]}:=by
  have:=FBox.new (w.alloc (.cells #[.int .i64 0,.slice none 0 0,.string {data:= #[]}] 114)) 2 (.slice none 0 0) {data:= #[]}
  rwa [World.size_alloc] at this
 have hs2:((w.alloc (.cells #[.int .i64 0,.slice none 0 0,.string {data:= #[]}] 114)).alloc (.cells #[.int .i64 2,.slice none 0 0,.string {data:= #[]}] 114)).heap.size=w.heap.size+2:=by simp
 have hsl:∀W,(Instr.slice 9 (.string s) (some (.int .i64 1)) none none).run Tryz.prog W= .ok (.string (s.extract 1 s.size)) W:=zbm s 1 (by omega) hl
 have hid:=zae s 1 (by omega)
 rw [hs] at hid
 simp only [List.drop_succ_cons,List.drop_zero] at hid
 have hr1:(s.extract 1 s.size).size≤maxLen:=by unfold maxLen;rw [ByteArray.size_extract];omega
 generalize s.extract 1 s.size=r1 at *
 have HN:∀W,Calls Tryz.prog 123 #[.string r1] W fun e w'=>∃v,e= .returned (.tuple #[v,.int .i64 (A:Int),.bool true])∧w'.ownsRow W.heap.size 129 2 v zs.length (flat zs)∧Below W.heap.size W w':=by
  intro W
  refine (zi2 r1 W hr1).mono ?_
  rintro e w' ⟨⟨h3,_⟩ | ⟨ys,v,B,h3,he,ho⟩,hb⟩
  ·rw [hid,h2] at h3;cases h3
  ·rw [hid,h2] at h3;cases h3;exact ⟨v,he,ho,hb⟩
 have hN1:(1:Int)+(A:Int)=(N:Int):=by omega
 have hAb:A≤9223372036854775806:=by omega
 have HZ:Hid (zs.length≤12):=hz
 obtain ⟨i0,hi0,hz0,hz1,hz2⟩:=info_parts zFx
 have HI:Hid (Tryz.prog.info? 3=some i0∧i0.zero=some (.int .i64 0)∧i0.size=1∧i0.bytes=8):=⟨hi0,hz0,hz1,hz2⟩
 clear hs hl hsz hid hr1 h2 hA hN hi0 hz0 hz1 hz2
 go_enter Tryz.func98,Tryz.ntmps98
 go_wp2_with fail
 generalize ((w.alloc (.cells #[.int .i64 0,.slice none 0 0,.string {data:= #[]}] 114)).alloc (.cells #[.int .i64 2,.slice none 0 0,.string {data:= #[]}] 114))=W2 at *
 refine (HN W2).mono ?_
 rintro e w3 ⟨v3,rfl,ho3,hb3⟩
 rw [hs2] at ho3
 have hs3:w.heap.size+2≤w3.heap.size:=by have:=hb3.size;omega
 have bR3:=bR.below hb3 bR.lt
 have bF3:=bF.below hb3 bF.lt
 have hB3:=hB2.trans (hb3.mono hB2.size)
 have hrow:=zbo ho3 (by have:=HZ.out;omega)
 obtain ⟨a3,c3,hv3,hL3,_,hcells⟩:=hrow
 subst hv3
 have HCL:Hid (zs= []∨∃b o,a3=some ⟨b,o,none⟩∧w.heap.size+2≤b∧b<w3.heap.size∧Cells w3 b o zs):=by
  show _∨_
  rcases hcells with h | ⟨b,o,rfl,hb,hc⟩
  ·exact .inl h
  ·refine .inr ⟨b,o,rfl,?_,hb,hc⟩
   rcases ho3.2 with ⟨e,_⟩ | ⟨g',cap,cur,e,hg,_⟩
   ·cases e
   ·injection e with e1;injection e1 with e2;injection e2 with e3;subst e3;exact hg
 clear HN hb3 bR bF hB2 hs2 hcells ho3
 generalize hlen:zs.length=len at *
 have HLen:Hid (zs.length=len):=hlen
 clear hlen
 go_wp2_with fail
 go_loopw [9] (fun i wr=>∃(j:Nat) (v:Value),j≤len∧i= .int .i64 (j:Int)∧FBox wr (w.heap.size+1) 2 v {data:= #[]}∧FBox wr w.heap.size 0 (.slice none 0 0) {data:= #[]}∧OwnI wr w3.heap.size v (unr (zs.take j))∧(∀b,w.heap.size+2≤b→b<w3.heap.size→wr.heap[b]? =w3.heap[b]?)∧w3.heap.size≤wr.heap.size∧Below w.heap.size w wr) (fun i _=>len-(intOf i).toNat)
 case atStart=>exact ⟨0,_,Nat.zero_le _,rfl,bF3,bR3,World.ownsRow_nil _ _ _ _,fun _ _ _=>rfl,Nat.le_refl _,hB3⟩
 case round=>
  obtain ⟨j,v,hj,rfl,bF,bR,hown,hkeep,hsz,hB⟩:=hrel
  obtain ⟨av,cv,rfl⟩:=zcw hown
  have f1:=bF.c1
  by_cases hlt:j<len
  ·have g1:(j:Int)<(len:Int):=by omega
   have gj0:(0:Int)≤(j:Int):=by omega
   have hjl:j<zs.length:=by have:=HLen.out;omega
   obtain ⟨b,o,rfl,hb2,hb3,hC⟩:∃b o,a3=some ⟨b,o,none⟩∧w.heap.size+2≤b∧b<w3.heap.size∧Cells w3 b o zs:=by
    rcases HCL.out with h | h
    ·rw [h] at hjl;simp at hjl
    ·exact h
   obtain ⟨c0,c1⟩:=hC j hjl
   have hkb:=hkeep b hb2 hb3
   have d0:wr.drew.cell? ⟨b,o+j*2,none⟩=some (.int .i64 (at' zs j).1):=by rw [←c0];show wr.cell? _=_;unfold World.cell?;rw [hkb]
   have d1:wr.drew.cell? ⟨b,o+j*2+1,none⟩=some (.int .i64 (at' zs j).2):=by rw [←c1];show wr.cell? _=_;unfold World.cell?;rw [hkb]
   have HNx:Hid (unr (zs.take (j+1))=unr (zs.take j)++ [(at' zs j).2,(at' zs j).1]):=by
    show _=_
    rw [take_at hjl,zeh];rfl
   have hul:(unr (zs.take j)).length≤24:=by rw [zb6,List.length_take];have:=HZ.out;omega
   generalize at' zs j=y at *
   obtain ⟨lo,hi⟩:=y
   simp only at d0 d1 HNx
   have hbr:b<wr.heap.size:=Nat.lt_of_lt_of_le hb3 hsz
   have e0:=(World.cell?_alloc_lt wr.drew (.cells #[.int .i64 hi,.int .i64 lo] 3) ⟨b,o+j*2,none⟩ hbr).trans d0
   have e1:=(World.cell?_alloc_lt wr.drew (.cells #[.int .i64 hi,.int .i64 lo] 3) ⟨b,o+j*2+1,none⟩ hbr).trans d1
   have f1d:wr.drew.cell? ⟨w.heap.size+1,1,none⟩=some (.slice av (unr (zs.take j)).length cv):=f1
   have f1a:=(World.cell?_alloc_lt wr.drew (.cells #[.int .i64 hi,.int .i64 lo] 3) ⟨w.heap.size+1,1,none⟩ bF.lt).trans f1d
   have f1b:(wr.alloc (.cells #[.int .i64 hi,.int .i64 lo] 3)).cell? ⟨w.heap.size+1,1,none⟩=some (.slice av (unr (zs.take j)).length cv):=f1a
   have f1c:(wr.alloc (.cells #[.int .i64 hi,.int .i64 lo] 3)).drew.cell? ⟨w.heap.size+1,1,none⟩=some (.slice av (unr (zs.take j)).length cv):=f1a
   have HO:Hid (OwnI wr.drew w3.heap.size (.slice av (unr (zs.take j)).length cv) (unr (zs.take j))):=hown
   have cs:=zfg wr.drew hi lo
   have CS:Hid (∀j u,(ivs [hi,lo])[j]? =some u→(wr.drew.alloc (.cells #[.int .i64 hi,.int .i64 lo] 3)).cell? ((⟨wr.drew.heap.size,0,none⟩:Addr).add j)=some u):=cs
   have hnv:some (w.heap.size+1)≠(Value.slice av (unr (zs.take j)).length cv).ownBlock:=fun e=>by have:=(hown.lt _ e.symm).1;omega
   have hnv0:some w.heap.size≠(Value.slice av (unr (zs.take j)).length cv).ownBlock:=fun e=>by have:=(hown.lt _ e.symm).1;omega
   have hul2:Hid ((unr (zs.take j)).length≤24):=hul
   clear cs c0 c1 hC hjl hkb hul f1
   go_wp2_with fail
   go_region_law (refine zam rfl (.tmp 56) (.tmp 67) 35 rfl w3.heap.size 3 i0 _ 1 8 Tryz.underlying35 HI.out.1 HI.out.2.1 HI.out.2.2.1 HI.out.2.2.2 rfl (by decide) (.slice av (unr (zs.take j)).length cv) (unr (zs.take j)).length (ivs (unr (zs.take j))) (by simp [Act.eval,Act.put]) (HO.out.alloc _) ⟨wr.drew.heap.size,0,none⟩ 2 2 (ivs [hi,lo]) (by simp [Act.eval,Act.put]) rfl CS.out (by intro u hu;simp [ivs] at hu;rcases hu with rfl | rfl<;>rfl) (by have:=hul2.out;unfold maxLen;omega) (by have:=hul2.out;omega) (by simp;omega) ?_;intro v' w4 hown' hgrow;obtain ⟨a4,c4,hv4⟩:=zcw hown';subst hv4;have bF4:=FBox.kept (bF.alloc' (.cells #[.int .i64 hi,.int .i64 lo] 3)) hgrow hnv;have k1:=bF4.c1;have k2:=bF4.fz 1)
   all_goals
    have hlt4:b<(wr.drew.alloc (.cells #[.int .i64 hi,.int .i64 lo] 3)).heap.size:=by simp;omega
    have ho4:OwnI w4 w3.heap.size (.slice a4 ((unr (zs.take j)).length+2) c4) (unr (zs.take j)++ [hi,lo]):=by
     show w4.ownsRow w3.heap.size 3 1 _ (unr (zs.take j)++ [hi,lo]).length (ivs (unr (zs.take j)++ [hi,lo]))
     rw [zh7,List.length_append];exact hown'
    have bF5:=bF4.set1 (.slice a4 ((unr (zs.take j)).length+2) c4)
    have bR4:=FBox.kept (bR.alloc' (.cells #[.int .i64 hi,.int .i64 lo] 3)) hgrow hnv0
    have bR5:FBox (w4.setCell ⟨w.heap.size+1,1,none⟩ (.slice a4 ((unr (zs.take j)).length+2) c4)) w.heap.size 0 (.slice none 0 0) {data:= #[]}:=bR4.other (by omega) _
    have ho5:=zbd (B:=w.heap.size+1) (j:=1) (u:= .slice a4 ((unr (zs.take j)).length+2) c4) ho4 (by omega)
    have hB5:Below w.heap.size w (w4.setCell ⟨w.heap.size+1,1,none⟩ (.slice a4 ((unr (zs.take j)).length+2) c4)):=(((hB.drew.alloc (by simp;omega) _).grown hgrow (by simp;omega) (fun q e=>by have:=(hown.lt q e).1;omega))).setCell (by simp) _
    have hk5:∀b',w.heap.size+2≤b'→b'<w3.heap.size→(w4.setCell ⟨w.heap.size+1,1,none⟩ (.slice a4 ((unr (zs.take j)).length+2) c4)).heap[b']? =w3.heap[b']? :=fun b' h1 h2=>by
     rw [Below.heap_setCell w4 ⟨w.heap.size+1,1,none⟩ _ b' (show b'≠w.heap.size+1 by omega),hgrow.block b' (by simp;omega) (fun e=>by have:=(hown.lt _ e.symm).1;omega),←hkeep b' h1 h2]
     exact (Below.block (((Below.refl wr.heap.size wr).drew.alloc (Nat.le_refl _) _)) b' (by omega))
    have hs5:w3.heap.size≤(w4.setCell ⟨w.heap.size+1,1,none⟩ (.slice a4 ((unr (zs.take j)).length+2) c4)).heap.size:=by
     have:=hgrow.size
     simp at this ⊢
     omega
    clear hgrow hown' bF4 k1 k2 bR4 ho4 hlt4 e0 e1 f1a f1b f1c f1d d0 d1 bF bR hown hB hkeep
    generalize w4.setCell ⟨w.heap.size+1,1,none⟩ (.slice a4 ((unr (zs.take j)).length+2) c4)=W5 at *
    go_wp2_with fail
    exact ⟨⟨j+1,_,by omega,by go_num,bF5,bR5,by rw [HNx.out];exact ho5,hk5,hs5,hB5⟩,by simp [intOf];omega⟩
  ·obtain rfl:j=len:=by omega
   have g1:¬(j:Int)<(j:Int):=by omega
   have HE:Hid (zs.take j=zs):=by show _=_;rw [←HLen.out,List.take_length]
   rw [HE.out] at hown bF f1
   clear HE
   have f0:=bF.c0
   have f2:=bF.c2
   have c40:=bR.c0
   have c41:=bR.c1
   have c42:=bR.c2
   have z0:=bR.fz 0
   have z1:=bR.fz 1
   have z2:=bR.fz 2
   go_wp2_with fail
   refine bodyPost_ret (v:= .tuple #[.agg #[.int .i64 2,.slice av (unr zs).length cv,.string {data:= #[]}],.int .i64 (N:Int),.bool true]) ?_ rfl ⟨_,rfl,?_,?_⟩
   ·rw [zaj rfl];go_simp
   ·exact zid (zbd (zbd (zbd hown (by omega)) (by omega)) (by omega)) (by omega)
   ·exact ((hB.setCell (Nat.le_refl _) _).setCell (Nat.le_refl _) _).setCell (Nat.le_refl _) _
theorem dr_o (s:ByteArray) (k:Int) (l:List Int) (w:World) (hl47:s.size≤140737488355328) (hs:V.ints s=k::l) (h1:zbk k=true) (h2:k≠2) (h3:k≠3):Calls Tryz.prog 98 #[.string s] w fun e w'=>((tk (cntK k) l=none∧e= .returned (.tuple #[zd4,.int .i64 0,.bool false]))∨(∃ns A,tk (cntK k) l=some (ns,A)∧∃v,e= .returned (.tuple #[.agg #[.int .i64 k,v,.string {data:= #[]}],.int .i64 (1+(A:Int)),.bool true])∧OwnI w' w.heap.size v ns))∧Below w.heap.size w w':=by
 have hne:(s.toList== [])=false:=zb0 (by rw [←zaa,hs];simp)
 have hix:=zct s k l hs
 have hk0:=zab s k (by rw [hs];simp)
 have hsz:s.size=l.length+1:=by rw [←zaa,hs];rfl
 have hl:s.size≤9223372036854775807:=by omega
 have hB2:Below w.heap.size w ((w.alloc (.cells #[.int .i64 0,.slice none 0 0,.string {data:= #[]}] 114)).alloc (.cells #[.int .i64 k,.slice none 0 0,.string {data:= #[]}] 114)):=((Below.refl _ w).alloc (Nat.le_refl _) _).alloc (by simp) _
 have bR:FBox ((w.alloc (.cells #[.int .i64 0,.slice none 0 0,.string {data:= #[]}] 114)).alloc (.cells #[.int .i64 k,.slice none 0 0,.string {data:= #[]}] 114)) w.heap.size 0 (.slice none 0 0) {data:= #[]}:=(FBox.new w 0 _ _).alloc _
 have bF:FBox ((w.alloc (.cells #[.int .i64 0,.slice none 0 0,.string {data:= #[]}] 114)).alloc (.cells #[.int .i64 k,.slice none 0 0,.string {data:= #[]}] 114)) (w.heap.size+1) k (.slice none 0 0) {data:= #[]}:=by
  have:=FBox.new (w.alloc (.cells #[.int .i64 0,.slice none 0 0,.string {data:= #[]}] 114)) k (.slice none 0 0) {data:= #[]}
  rwa [World.size_alloc] at this
 have hs2:((w.alloc (.cells #[.int .i64 0,.slice none 0 0,.string {data:= #[]}] 114)).alloc (.cells #[.int .i64 k,.slice none 0 0,.string {data:= #[]}] 114)).heap.size=w.heap.size+2:=by simp
 have hd0:s.size≤9223372036854775807:=hl
 have HG:Hid (∀A,1+A≤s.size→V.ints (s.extract (1+A) s.size)=l.drop A):=by
  show∀A,_
  intro A hA
  rw [zae s (1+A) hA,hs,show 1+A=A+1 by omega,List.drop_succ_cons]
 have HSZ:Hid (s.size=l.length+1):=hsz
 have hby:Hid (Bytes l):=fun z hz=>zab s z (by rw [hs];simp [hz])
 have hk:=(zb1 k).1 h1
 have hk1:¬k<1:=by omega
 have hk8:¬8<k:=by omega
 have hk2:¬k=2:=h2
 have hk3:¬k=3:=h3
 have hkb:(k==2)=false:=by simp [h2]
 have hkc:(k==3)=false:=by simp [h3]
 have HC:=zaq k
 rw [show cntD k=((cntK k:Nat):Int) by unfold cntD cntK;simp only [h2];repeat' split<;>simp_all] at HC
 have HMany:Hid (cntK k≤2):=by show _≤_;unfold cntK;split<;>(try split)<;>omega
 generalize cntK k=many at *
 clear h1 h2 h3 hk
 clear hs hl hsz
 go_enter Tryz.func98,Tryz.ntmps98
 go_wp2_with (first | (go_at_call 119;refine (HC _).mono ?_;rintro e w1 ⟨rfl,rfl⟩))
 generalize ((w.alloc (.cells #[.int .i64 0,.slice none 0 0,.string {data:= #[]}] 114)).alloc (.cells #[.int .i64 k,.slice none 0 0,.string {data:= #[]}] 114))=W2 at *
 go_loopw [10,12] (fun a i wr=>∃(A j:Nat) (ns:List Int) (v:Value),j≤many∧a= .int .i64 (1+(A:Int))∧i= .int .i64 (j:Int)∧FBox wr (w.heap.size+1) k v {data:= #[]}∧FBox wr w.heap.size 0 (.slice none 0 0) {data:= #[]}∧OwnI wr (w.heap.size+2) v ns∧ns.length=j∧1+A≤s.size∧Hid (tk many l=tkA (many-j) ns A l)∧w.heap.size+2≤wr.heap.size∧Below w.heap.size w wr) (fun _ i _=>many-(intOf i).toNat)
 case atStart=>exact ⟨0,0,[],_,Nat.zero_le _,rfl,rfl,bF,bR,World.ownsRow_nil _ _ _ _,rfl,by have:=HSZ.out;omega,(show tk many l=tkA (many-0) [] 0 l by rw [zjy];rfl),by omega,hB2⟩
 case round=>
  clear bF bR hB2 hs2
  obtain ⟨A,j,ns,v,hj,rfl,rfl,bF,bR,hown,hnj,hA,hE,hw2,hB⟩:=hrel
  obtain ⟨av,cv,rfl⟩:=zcw hown
  have f0:=bF.c0
  have f1:=bF.c1
  have f2:=bF.c2
  have hjm:j≤100:=by have:=HMany.out;omega
  have hAb:(A:Int)+1≤(s.size:Int):=by omega
  have hat:((1:Int)+(A:Int)).toNat=1+A:=by omega
  have hsl:=zbm s (1+A) hA hd0
  rw [show ((1+A:Nat):Int)=1+(A:Int) by omega] at hsl
  have hit:=HG.out A hA
  have hts:(s.extract (1+A) s.size).size=s.size-(1+A):=by rw [ByteArray.size_extract];omega
  obtain ⟨r,hr⟩:∃r,s.extract (1+A) s.size=r:=⟨_,rfl⟩
  rw [hr] at hsl hit hts
  have HRx:Hid (s.extract (1+A) s.size=r):=hr
  clear hr
  have HGet:=fun W=>V.zer r W (by unfold maxLen;omega)
  rw [hit] at HGet
  by_cases hlt:j<many
  ·have g1:(j:Int)<(many:Int):=by omega
   have hmk:many-j=(many-(j+1))+1:=by omega
   cases hg:V.getI (l.drop A) with
   | none=>
    rw [hg] at HGet
    simp only [V.zim] at HGet
    have HE:Hid (tk many l=none):=by show _=_;rw [hE.out,hmk];exact zlp hg
    clear hE hg hit hnj hmk hts
    go_wp2_with fail
    refine (HGet _).mono ?_
    rintro e w4 ⟨rfl,hb4⟩
    have bR4:=bR.below hb4 bR.lt
    have hB4:=hB.trans (hb4.mono hB.size)
    clear HGet bR bF hb4
    have c40:=bR4.c0
    have c41:=bR4.c1
    have c42:=bR4.c2
    have z0:=bR4.fz 0
    have z1:=bR4.fz 1
    have z2:=bR4.fz 2
    go_wp2_with fail
    refine bodyPost_ret (v:= .tuple #[zd4,.int .i64 0,.bool false]) ?_ rfl ⟨.inl ⟨HE.out,rfl⟩,?_⟩
    ·rw [zaj rfl];go_simp
    ·first | exact ((hB4.setCell (Nat.le_refl _) _).setCell (Nat.le_refl _) _).setCell (Nat.le_refl _) _ | exact hB4
   | some p=>
    obtain ⟨q,c⟩:=p
    obtain ⟨cn,rfl,hc4,hcl,hd1,hd2⟩:=zdd (za4 hby.out A) hg
    rw [List.length_drop] at hcl
    rw [hg] at HGet
    simp only [V.zim] at HGet
    have HE:Hid (tk many l=tkA (many-(j+1)) (ns++ [q]) (A+cn) l):=by
     show _=_
     rw [hE.out,hmk,zlq hg];rfl
    have hA2:1+(A+cn)≤s.size:=by have:=HSZ.out;omega
    have HA2:Hid (1+(A+cn)≤s.size):=hA2
    have hcn:(A:Int)+(cn:Int)+1≤(s.size:Int):=by omega
    have HNJ:Hid (ns.length=j):=hnj
    have hns:ns.length≤100:=by omega
    clear hE hg hit hmk hts hnj hcl hA2
    go_wp2_with fail
    refine (HGet _).mono ?_
    rintro e w4 ⟨rfl,hb4⟩
    have bR4:=bR.below hb4 bR.lt
    have bF4:=bF.below hb4 bF.lt
    have hB4:=hB.trans (hb4.mono hB.size)
    have hw4:w.heap.size+2≤w4.heap.size:=Nat.le_trans hw2 hb4.size
    have ho4:=hown.below hb4
    have own4:=ho4.alloc (.cells #[.int .i64 q] 3)
    have hnv:some (w.heap.size+1)≠(Value.slice av ns.length cv).ownBlock:=fun e=>by have:=(ho4.lt _ e.symm).1;omega
    have hnv0:some w.heap.size≠(Value.slice av ns.length cv).ownBlock:=fun e=>by have:=(ho4.lt _ e.symm).1;omega
    have t1:=bF4.c1
    have bF4a:=bF4.alloc (.cells #[.int .i64 q] 3)
    have bR4a:=bR4.alloc (.cells #[.int .i64 q] 3)
    clear HGet bR bF hb4 hB hown f0 f1 f2
    go_wp2_with (at_builtin;refine zcp rfl (.tmp 93) (.tmp 95) rfl (w.heap.size+2) _ ns rfl own4 ⟨w4.heap.size,0,none⟩ 1 1 [q] rfl rfl (cells_one w4 q) (by simp;omega) (by simp;omega) ?_;intro v5 w5 hown5 hg5;obtain ⟨a5,c5,hv5⟩:=zcw hown5;rw [show (ns++ [q]).length=ns.length+1 by simp] at hv5;subst hv5;have bF5:=FBox.kept bF4a hg5 hnv;have u1:=bF5.c1;have u2:=bF5.fz 1)
    have bF6:=bF5.set1 (.slice a5 (ns.length+1) c5)
    have bR6:FBox (w5.setCell ⟨w.heap.size+1,1,none⟩ (.slice a5 (ns.length+1) c5)) w.heap.size 0 (.slice none 0 0) {data:= #[]}:=(FBox.kept bR4a hg5 hnv0).other (by omega) _
    have ho6:=zbd (B:=w.heap.size+1) (j:=1) (u:= .slice a5 (ns.length+1) c5) hown5 (by omega)
    have hB6:Below w.heap.size w (w5.setCell ⟨w.heap.size+1,1,none⟩ (.slice a5 (ns.length+1) c5)):=((hB4.alloc hB4.size _).grown hg5 (by simp;omega) (fun z e=>by have:=(ho4.lt z e).1;omega)).setCell (by simp) _
    have hw6:w.heap.size+2≤(w5.setCell ⟨w.heap.size+1,1,none⟩ (.slice a5 (ns.length+1) c5)).heap.size:=by
     have:=hg5.size
     simp at this ⊢
     omega
    exact ⟨⟨A+cn,j+1,ns++ [q],_,by omega,by go_num,by go_num,bF6,bR6,ho6,by simp [HNJ.out],HA2.out,HE,hw6,hB6⟩,by simp [intOf];omega⟩
  ·obtain rfl:j=many:=by omega
   have g1:¬(j:Int)<(j:Int):=by omega
   have HE:Hid (tk j l=some (ns,A)):=by show _=_;rw [hE.out,Nat.sub_self,zml]
   clear hE
   have c40:=bR.c0
   have c41:=bR.c1
   have c42:=bR.c2
   have z0:=bR.fz 0
   have z1:=bR.fz 1
   have z2:=bR.fz 2
   clear HGet hsl hts hit
   go_wp2_with fail
   refine bodyPost_ret (v:= .tuple #[.agg #[.int .i64 k,.slice av ns.length cv,.string {data:= #[]}],.int .i64 (1+(A:Int)),.bool true]) ?_ rfl ⟨.inr ⟨ns,A,HE.out,.slice av ns.length cv,rfl,?_⟩,?_⟩
   ·rw [zaj rfl];go_simp
   ·exact zid (zbd (zbd (zbd hown (by omega)) (by omega)) (by omega)) (by omega)
   ·exact ((hB.setCell (Nat.le_refl _) _).setCell (Nat.le_refl _) _).setCell (Nat.le_refl _) _
theorem dr_3 (s:ByteArray) (l:List Int) (w:World) (hl47:s.size≤140737488355328) (hs:V.ints s=3::l):Calls Tryz.prog 98 #[.string s] w fun e w'=>(((tk 1 l=none∨∃ns A,tk 1 l=some (ns,A)∧zbl (l.drop A)=none)∧e= .returned (.tuple #[zd4,.int .i64 0,.bool false]))∨(∃ns A,tk 1 l=some (ns,A)∧∃q c,zbl (l.drop A)=some (q,c)∧∃v,e= .returned (.tuple #[.agg #[.int .i64 3,v,.string (s.extract (1+A+c) (1+A+c+q))],.int .i64 ((1+A+c+q:Nat):Int),.bool true])∧OwnI w' w.heap.size v ns))∧Below w.heap.size w w':=by
 have hne:(s.toList== [])=false:=zb0 (by rw [←zaa,hs];simp)
 have hix:=zct s 3 l hs
 have hk0:=zab s 3 (by rw [hs];simp)
 have hsz:s.size=l.length+1:=by rw [←zaa,hs];rfl
 have hl:s.size≤9223372036854775807:=by omega
 have hB2:Below w.heap.size w ((w.alloc (.cells #[.int .i64 0,.slice none 0 0,.string {data:= #[]}] 114)).alloc (.cells #[.int .i64 3,.slice none 0 0,.string {data:= #[]}] 114)):=((Below.refl _ w).alloc (Nat.le_refl _) _).alloc (by simp) _
 have bR:FBox ((w.alloc (.cells #[.int .i64 0,.slice none 0 0,.string {data:= #[]}] 114)).alloc (.cells #[.int .i64 3,.slice none 0 0,.string {data:= #[]}] 114)) w.heap.size 0 (.slice none 0 0) {data:= #[]}:=(FBox.new w 0 _ _).alloc _
 have bF:FBox ((w.alloc (.cells #[.int .i64 0,.slice none 0 0,.string {data:= #[]}] 114)).alloc (.cells #[.int .i64 3,.slice none 0 0,.string {data:= #[]}] 114)) (w.heap.size+1) 3 (.slice none 0 0) {data:= #[]}:=by
  have:=FBox.new (w.alloc (.cells #[.int .i64 0,.slice none 0 0,.string {data:= #[]}] 114)) 3 (.slice none 0 0) {data:= #[]}
  rwa [World.size_alloc] at this
 have hs2:((w.alloc (.cells #[.int .i64 0,.slice none 0 0,.string {data:= #[]}] 114)).alloc (.cells #[.int .i64 3,.slice none 0 0,.string {data:= #[]}] 114)).heap.size=w.heap.size+2:=by simp
 have hd0:s.size≤9223372036854775807:=hl
 have HG:Hid (∀A,1+A≤s.size→V.ints (s.extract (1+A) s.size)=l.drop A):=by
  show∀A,_
  intro A hA
  rw [zae s (1+A) hA,hs,show 1+A=A+1 by omega,List.drop_succ_cons]
 have HSZ:Hid (s.size=l.length+1):=hsz
 have hby:Hid (Bytes l):=fun z hz=>zab s z (by rw [hs];simp [hz])
 have HC:=zaq 3
 obtain ⟨many,hm1⟩:∃m:Nat,m=1:=⟨_,rfl⟩
 rw [show cntD 3=(many:Int) by rw [hm1];rfl] at HC
 have HMany:Hid (many≤2):=by show _≤_;omega
 have HM1:Hid (many=1):=hm1
 clear hm1
 clear hs hl hsz
 go_enter Tryz.func98,Tryz.ntmps98
 go_wp2_with (first | (go_at_call 119;refine (HC _).mono ?_;rintro e w1 ⟨rfl,rfl⟩))
 generalize ((w.alloc (.cells #[.int .i64 0,.slice none 0 0,.string {data:= #[]}] 114)).alloc (.cells #[.int .i64 3,.slice none 0 0,.string {data:= #[]}] 114))=W2 at *
 go_loopw [10,12] (fun a i wr=>∃(A j:Nat) (ns:List Int) (v:Value),j≤many∧a= .int .i64 (1+(A:Int))∧i= .int .i64 (j:Int)∧FBox wr (w.heap.size+1) 3 v {data:= #[]}∧FBox wr w.heap.size 0 (.slice none 0 0) {data:= #[]}∧OwnI wr (w.heap.size+2) v ns∧ns.length=j∧1+A≤s.size∧Hid (tk many l=tkA (many-j) ns A l)∧w.heap.size+2≤wr.heap.size∧Below w.heap.size w wr) (fun _ i _=>many-(intOf i).toNat)
 case atStart=>exact ⟨0,0,[],_,Nat.zero_le _,rfl,rfl,bF,bR,World.ownsRow_nil _ _ _ _,rfl,by have:=HSZ.out;omega,(show tk many l=tkA (many-0) [] 0 l by rw [zjy];rfl),by omega,hB2⟩
 case round=>
  clear bF bR hB2 hs2
  obtain ⟨A,j,ns,v,hj,rfl,rfl,bF,bR,hown,hnj,hA,hE,hw2,hB⟩:=hrel
  obtain ⟨av,cv,rfl⟩:=zcw hown
  have f0:=bF.c0
  have f1:=bF.c1
  have f2:=bF.c2
  have hjm:j≤100:=by have:=HMany.out;omega
  have hAb:(A:Int)+1≤(s.size:Int):=by omega
  have hat:((1:Int)+(A:Int)).toNat=1+A:=by omega
  have hsl:=zbm s (1+A) hA hd0
  rw [show ((1+A:Nat):Int)=1+(A:Int) by omega] at hsl
  have hit:=HG.out A hA
  have hts:(s.extract (1+A) s.size).size=s.size-(1+A):=by rw [ByteArray.size_extract];omega
  obtain ⟨r,hr⟩:∃r,s.extract (1+A) s.size=r:=⟨_,rfl⟩
  rw [hr] at hsl hit hts
  have HRx:Hid (s.extract (1+A) s.size=r):=hr
  clear hr
  have HGet:=fun W=>V.zer r W (by unfold maxLen;omega)
  rw [hit] at HGet
  by_cases hlt:j<many
  ·have g1:(j:Int)<(many:Int):=by omega
   have hmk:many-j=(many-(j+1))+1:=by omega
   cases hg:V.getI (l.drop A) with
   | none=>
    rw [hg] at HGet
    simp only [V.zim] at HGet
    have HE:Hid (tk many l=none):=by show _=_;rw [hE.out,hmk];exact zlp hg
    clear hE hg hit hnj hmk hts
    go_wp2_with fail
    refine (HGet _).mono ?_
    rintro e w4 ⟨rfl,hb4⟩
    have bR4:=bR.below hb4 bR.lt
    have hB4:=hB.trans (hb4.mono hB.size)
    clear HGet bR bF hb4
    have c40:=bR4.c0
    have c41:=bR4.c1
    have c42:=bR4.c2
    have z0:=bR4.fz 0
    have z1:=bR4.fz 1
    have z2:=bR4.fz 2
    go_wp2_with fail
    refine bodyPost_ret (v:= .tuple #[zd4,.int .i64 0,.bool false]) ?_ rfl ⟨.inl ⟨.inl (by have:=HE.out;rwa [HM1.out] at this),rfl⟩,?_⟩
    ·rw [zaj rfl];go_simp
    ·first | exact ((hB4.setCell (Nat.le_refl _) _).setCell (Nat.le_refl _) _).setCell (Nat.le_refl _) _ | exact hB4
   | some p=>
    obtain ⟨q,c⟩:=p
    obtain ⟨cn,rfl,hc4,hcl,hd1,hd2⟩:=zdd (za4 hby.out A) hg
    rw [List.length_drop] at hcl
    rw [hg] at HGet
    simp only [V.zim] at HGet
    have HE:Hid (tk many l=tkA (many-(j+1)) (ns++ [q]) (A+cn) l):=by
     show _=_
     rw [hE.out,hmk,zlq hg];rfl
    have hA2:1+(A+cn)≤s.size:=by have:=HSZ.out;omega
    have HA2:Hid (1+(A+cn)≤s.size):=hA2
    have hcn:(A:Int)+(cn:Int)+1≤(s.size:Int):=by omega
    have HNJ:Hid (ns.length=j):=hnj
    have hns:ns.length≤100:=by omega
    clear hE hg hit hmk hts hnj hcl hA2
    go_wp2_with fail
    refine (HGet _).mono ?_
    rintro e w4 ⟨rfl,hb4⟩
    have bR4:=bR.below hb4 bR.lt
    have bF4:=bF.below hb4 bF.lt
    have hB4:=hB.trans (hb4.mono hB.size)
    have hw4:w.heap.size+2≤w4.heap.size:=Nat.le_trans hw2 hb4.size
    have ho4:=hown.below hb4
    have own4:=ho4.alloc (.cells #[.int .i64 q] 3)
    have hnv:some (w.heap.size+1)≠(Value.slice av ns.length cv).ownBlock:=fun e=>by have:=(ho4.lt _ e.symm).1;omega
    have hnv0:some w.heap.size≠(Value.slice av ns.length cv).ownBlock:=fun e=>by have:=(ho4.lt _ e.symm).1;omega
    have t1:=bF4.c1
    have bF4a:=bF4.alloc (.cells #[.int .i64 q] 3)
    have bR4a:=bR4.alloc (.cells #[.int .i64 q] 3)
    clear HGet bR bF hb4 hB hown f0 f1 f2
    go_wp2_with (at_builtin;refine zcp rfl (.tmp 93) (.tmp 95) rfl (w.heap.size+2) _ ns rfl own4 ⟨w4.heap.size,0,none⟩ 1 1 [q] rfl rfl (cells_one w4 q) (by simp;omega) (by simp;omega) ?_;intro v5 w5 hown5 hg5;obtain ⟨a5,c5,hv5⟩:=zcw hown5;rw [show (ns++ [q]).length=ns.length+1 by simp] at hv5;subst hv5;have bF5:=FBox.kept bF4a hg5 hnv;have u1:=bF5.c1;have u2:=bF5.fz 1)
    have bF6:=bF5.set1 (.slice a5 (ns.length+1) c5)
    have bR6:FBox (w5.setCell ⟨w.heap.size+1,1,none⟩ (.slice a5 (ns.length+1) c5)) w.heap.size 0 (.slice none 0 0) {data:= #[]}:=(FBox.kept bR4a hg5 hnv0).other (by omega) _
    have ho6:=zbd (B:=w.heap.size+1) (j:=1) (u:= .slice a5 (ns.length+1) c5) hown5 (by omega)
    have hB6:Below w.heap.size w (w5.setCell ⟨w.heap.size+1,1,none⟩ (.slice a5 (ns.length+1) c5)):=((hB4.alloc hB4.size _).grown hg5 (by simp;omega) (fun z e=>by have:=(ho4.lt z e).1;omega)).setCell (by simp) _
    have hw6:w.heap.size+2≤(w5.setCell ⟨w.heap.size+1,1,none⟩ (.slice a5 (ns.length+1) c5)).heap.size:=by
     have:=hg5.size
     simp at this ⊢
     omega
    exact ⟨⟨A+cn,j+1,ns++ [q],_,by omega,by go_num,by go_num,bF6,bR6,ho6,by simp [HNJ.out],HA2.out,HE,hw6,hB6⟩,by simp [intOf];omega⟩
  ·obtain rfl:j=many:=by omega
   have g1:¬(j:Int)<(j:Int):=by omega
   have HE:Hid (tk j l=some (ns,A)):=by show _=_;rw [hE.out,Nat.sub_self,zml]
   clear hE
   rw [HM1.out] at HE
   cases hg:V.getI (l.drop A) with
   | none=>
    rw [hg] at HGet
    simp only [V.zim] at HGet
    have HP:Hid (zbl (l.drop A)=none):=by show _=_;simp [zbl,hg]
    clear hg hit hnj hts
    go_wp2_with fail
    refine (HGet _).mono ?_
    rintro e w4 ⟨rfl,hb4⟩
    have bR4:=bR.below hb4 bR.lt
    have bF4:=bF.below hb4 bF.lt
    have hB4:=hB.trans (hb4.mono hB.size)
    have ho4:=hown.below hb4
    clear HGet bR bF hb4 hB hown f0 f1 f2 hsl
    have c40:=bR4.c0
    have c41:=bR4.c1
    have c42:=bR4.c2
    have z0:=bR4.fz 0
    have z1:=bR4.fz 1
    have z2:=bR4.fz 2
    go_wp2_with fail
    refine bodyPost_ret (v:= .tuple #[zd4,.int .i64 0,.bool false]) ?_ rfl ⟨.inl ⟨.inr ⟨ns,A,HE.out,HP.out⟩,rfl⟩,?_⟩
    ·rw [zaj rfl];go_simp
    ·first | exact ((hB4.setCell (Nat.le_refl _) _).setCell (Nat.le_refl _) _).setCell (Nat.le_refl _) _ | exact hB4
   | some p=>
    obtain ⟨n,c⟩:=p
    obtain ⟨cn,rfl,hc4,hcl,hd1,hd2⟩:=zdd (za4 hby.out A) hg
    rw [List.length_drop] at hcl
    rw [hg] at HGet
    simp only [V.zim] at HGet
    obtain ⟨q,rfl⟩:∃q:Nat,n=(q:Int):=⟨n.toNat,by omega⟩
    have hsl3:=HSZ.out
    have hcn:(A:Int)+(cn:Int)+1≤(s.size:Int):=by omega
    by_cases h20:20<q
    ·have HP:Hid (zbl (l.drop A)=none):=by show _=_;simp only [zbl,hg];rw [if_pos (.inl (by omega))]
     have g20:(20:Int)<(q:Int):=by omega
     clear hg hit hnj hts hcl hsl3 h20
     go_wp2_with fail
     refine (HGet _).mono ?_
     rintro e w4 ⟨rfl,hb4⟩
     have bR4:=bR.below hb4 bR.lt
     have bF4:=bF.below hb4 bF.lt
     have hB4:=hB.trans (hb4.mono hB.size)
     have ho4:=hown.below hb4
     clear HGet bR bF hb4 hB hown f0 f1 f2 hsl
     have c40:=bR4.c0
     have c41:=bR4.c1
     have c42:=bR4.c2
     have z0:=bR4.fz 0
     have z1:=bR4.fz 1
     have z2:=bR4.fz 2
     go_wp2_with fail
     refine bodyPost_ret (v:= .tuple #[zd4,.int .i64 0,.bool false]) ?_ rfl ⟨.inl ⟨.inr ⟨ns,A,HE.out,HP.out⟩,rfl⟩,?_⟩
     ·rw [zaj rfl];go_simp
     ·first | exact ((hB4.setCell (Nat.le_refl _) _).setCell (Nat.le_refl _) _).setCell (Nat.le_refl _) _ | exact hB4
    ·have g20:¬(20:Int)<(q:Int):=by omega
     by_cases hfit:s.size<1+A+cn+q
     ·have HP:Hid (zbl (l.drop A)=none):=by show _=_;simp only [zbl,hg,List.length_drop];rw [if_pos (.inr (by omega))]
      have gf:(s.size:Int)<1+(A:Int)+(cn:Int)+(q:Int):=by omega
      clear hg hit hnj hts hcl hsl3 hfit h20
      go_wp2_with fail
      refine (HGet _).mono ?_
      rintro e w4 ⟨rfl,hb4⟩
      have bR4:=bR.below hb4 bR.lt
      have bF4:=bF.below hb4 bF.lt
      have hB4:=hB.trans (hb4.mono hB.size)
      have ho4:=hown.below hb4
      clear HGet bR bF hb4 hB hown f0 f1 f2 hsl
      have c40:=bR4.c0
      have c41:=bR4.c1
      have c42:=bR4.c2
      have z0:=bR4.fz 0
      have z1:=bR4.fz 1
      have z2:=bR4.fz 2
      go_wp2_with fail
      refine bodyPost_ret (v:= .tuple #[zd4,.int .i64 0,.bool false]) ?_ rfl ⟨.inl ⟨.inr ⟨ns,A,HE.out,HP.out⟩,rfl⟩,?_⟩
      ·rw [zaj rfl];go_simp
      ·first | exact ((hB4.setCell (Nat.le_refl _) _).setCell (Nat.le_refl _) _).setCell (Nat.le_refl _) _ | exact hB4
     ·have HP:Hid (zbl (l.drop A)=some (q,cn)):=by
       show _=_
       simp only [zbl,hg,List.length_drop]
       rw [if_neg (by omega)]
       simp
      have gf:¬(s.size:Int)<1+(A:Int)+(cn:Int)+(q:Int):=by omega
      have hsb:=zlw s (1+A+cn) (1+A+cn+q) (by omega) (by omega) hd0
      rw [show ((1+A+cn+q:Nat):Int)=1+(A:Int)+(cn:Int)+(q:Int) by omega,show ((1+A+cn:Nat):Int)=1+(A:Int)+(cn:Int) by omega] at hsb
      have HNq:Hid (((1+A+cn+q:Nat):Int)=1+(A:Int)+(cn:Int)+(q:Int)):=by show _=_;omega
      obtain ⟨dd,hdd⟩:∃dd,s.extract (1+A+cn) (1+A+cn+q)=dd:=⟨_,rfl⟩
      rw [hdd] at hsb
      have HDD:Hid (s.extract (1+A+cn) (1+A+cn+q)=dd):=hdd
      have HNJ:Hid (ns.length=j):=hnj
      clear hg hit hnj hts hcl hsl3 hdd hfit h20
      go_wp2_with fail
      refine (HGet _).mono ?_
      rintro e w4 ⟨rfl,hb4⟩
      have bR4:=bR.below hb4 bR.lt
      have bF4:=bF.below hb4 bF.lt
      have hB4:=hB.trans (hb4.mono hB.size)
      have ho4:=hown.below hb4
      clear HGet bR bF hb4 hB hown f0 f1 f2 hsl
      have t0:=bF4.c0
      have t1:=bF4.c1
      have t2:=bF4.c2
      have t3:=bF4.fz 2
      go_upto_region 26 with fail
      have hp0:0≤(1:Int)+(A:Int)+(cn:Int):=by omega
      have hp1:(1:Int)+(A:Int)+(cn:Int)+(q:Int)≤140737488355328:=by omega
      generalize (1:Int)+(A:Int)+(cn:Int)=p at *
      have gsum:wrap64 (p+(q:Int))=p+(q:Int):=by unfold wrap64;omega
      have gfb:¬(s.size:Int)<p+(q:Int):=by omega
      have HW2:Hid (ns.length≤100):=by show _≤_;have:=HNJ.out;omega
      clear hj hlt g1 hl47 hAb hat hjm hp1 hd2 hA gf hcn hc4 hd1 hp0 hw2
      generalize hpq:p+(q:Int)=r at *
      go_upto_region 29 with fail
      have bF5:=bF4.set2 dd
      have bR5:FBox (w4.setCell ⟨w.heap.size+1,2,none⟩ (.string dd)) w.heap.size 0 (.slice none 0 0) {data:= #[]}:=bR4.other (by omega) _
      have hB5:Below w.heap.size w (w4.setCell ⟨w.heap.size+1,2,none⟩ (.string dd)):=hB4.setCell (by simp) _
      have ho5:=zbd (B:=w.heap.size+1) (j:=2) (u:= .string dd) ho4 (by omega)
      generalize w4.setCell ⟨w.heap.size+1,2,none⟩ (.string dd)=W5 at *
      clear bF4 bR4 hB4 ho4 t0 t1 t2 t3
      have q0:=bF5.c0
      have q1:=bF5.c1
      have q2:=bF5.c2
      have c40:=bR5.c0
      have c41:=bR5.c1
      have c42:=bR5.c2
      have z0:=bR5.fz 0
      have z1:=bR5.fz 1
      have z2:=bR5.fz 2
      go_wp2_with fail
      refine bodyPost_ret (v:= .tuple #[.agg #[.int .i64 3,.slice av ns.length cv,.string dd],.int .i64 r,.bool true]) ?_ rfl ⟨.inr ⟨ns,A,HE.out,q,cn,HP.out,.slice av ns.length cv,by rw [HDD.out,show (1:Int)+(A:Int)+(cn:Int)+(q:Int)=r by have:=HNq.out;omega],?_⟩,?_⟩
      ·rw [zaj rfl];go_simp
      ·exact zid (zbd (zbd (zbd ho5 (by omega)) (by omega)) (by omega)) (by omega)
      ·exact ((hB5.setCell (Nat.le_refl _) _).setCell (Nat.le_refl _) _).setCell (Nat.le_refl _) _
theorem zBv (s:ByteArray) (w:World) (hl47:s.size≤140737488355328) (h:rdF s=none):Calls Tryz.prog 98 #[.string s] w fun e w'=>e= .returned (.tuple #[zd4,.int .i64 0,.bool false])∧Below w.heap.size w w':=by
 have hl:s.size≤maxLen:=by unfold maxLen;omega
 unfold rdF at h
 cases hs:V.ints s with
 | nil=>
  obtain rfl:s= {data:= #[]}:=zc1 (by rw [←zaa,hs];rfl)
  exact dr_a w
 | cons k l=>
  rw [hs] at h
  simp only at h
  have hby:Bytes l:=fun z hz=>zab s z (by rw [hs];simp [hz])
  cases h1:zbk k with
  | false=>
   by_cases hk:k<1
   ·exact zIg s k l w hs hk
   ·exact zIf s k l w hs (by simp [zbk] at h1;omega)
  | true=>
   rw [h1] at h
   simp only [Bool.true_eq_false,if_false] at h
   by_cases e2:k=2
   ·subst e2
    have h2:zbe l=none:=by
     cases hx:zbe l with
     | none=>rfl
     | some x=>rw [show za5 2 l=(zbe l).map fun x=>(unr x.1,x.2) by simp [za5],hx] at h;simp at h
    exact zGx s l w hl hs h2
   ·have en:za5 k l=tk (cntK k) l:=by simp [za5,e2]
    rw [en] at h
    by_cases e3:k=3
    ·subst e3
     refine (dr_3 s l w hl47 hs).mono ?_
     rintro e w' ⟨⟨_,he⟩ | ⟨ns,A,ht,q,c,hp,v,_⟩,hb⟩
     ·exact ⟨he,hb⟩
     ·rw [show tk (cntK 3) l=tk 1 l from rfl,ht] at h
      simp [hp] at h
    ·refine (dr_o s k l w hl47 hs h1 e2 e3).mono ?_
     rintro e w' ⟨⟨_,he⟩ | ⟨ns,A,ht,v,_⟩,hb⟩
     ·exact ⟨he,hb⟩
     ·rw [ht] at h
      simp [e3] at h
theorem zu0 (s:ByteArray) (w:World) (hl47:s.size≤140737488355328) (k:Int) (ns:List Int) (d:ByteArray) (n:Nat) (h:rdF s=some ((k,ns,d),n)):
  Calls Tryz.prog 98 #[.string s] w fun e w'=>∃v,e= .returned (.tuple #[.agg #[.int .i64 k,v,.string d],.int .i64 (n:Int),.bool true])∧OwnI w' w.heap.size v ns∧Below w.heap.size w w':=by
 have hl:s.size≤maxLen:=by unfold maxLen;omega
 unfold rdF at h
 cases hs:V.ints s with
 | nil=>rw [hs] at h;cases h
 | cons k' l=>
  rw [hs] at h
  simp only at h
  have hby:Bytes l:=fun z hz=>zab s z (by rw [hs];simp [hz])
  cases h1:zbk k' with
  | false=>rw [h1] at h;simp at h
  | true=>
   rw [h1] at h
   simp only [Bool.true_eq_false,if_false] at h
   by_cases e2:k'=2
   ·subst e2
    rw [show za5 2 l=(zbe l).map fun x=>(unr x.1,x.2) by simp [za5]] at h
    cases hx:zbe l with
    | none=>rw [hx] at h;simp at h
    | some x=>
     obtain ⟨zs,A⟩:=x
     obtain ⟨_,hg,_,hA⟩:=znm hby hx
     rw [hx] at h
     simp at h
     obtain ⟨⟨rfl,rfl,rfl⟩,rfl⟩:=h
     exact zGe s l w hl hs zs A _ hx hg.1 hA rfl
   ·have en:za5 k' l=tk (cntK k') l:=by simp [za5,e2]
    rw [en] at h
    by_cases e3:k'=3
    ·subst e3
     refine (dr_3 s l w hl47 hs).mono ?_
     rintro e w' ⟨⟨hno,_⟩ | ⟨ms,A,ht,q,c,hp,v,he,hR⟩,hb⟩
     ·rcases hno with ht | ⟨ms,A,ht,hp⟩
      ·rw [show tk (cntK 3) l=tk 1 l from rfl,ht] at h;simp at h
      ·rw [show tk (cntK 3) l=tk 1 l from rfl,ht] at h;simp [hp] at h
     ·rw [show tk (cntK 3) l=tk 1 l from rfl,ht] at h
      simp [hp] at h
      obtain ⟨⟨rfl,rfl,rfl⟩,rfl⟩:=h
      exact ⟨v,he,hR,hb⟩
    ·refine (dr_o s k' l w hl47 hs h1 e2 e3).mono ?_
     rintro e w' ⟨⟨ht,_⟩ | ⟨ms,A,ht,v,he,hR⟩,hb⟩
     ·rw [ht] at h;simp at h
     ·rw [ht] at h
      simp [e3] at h
      obtain ⟨⟨rfl,rfl,rfl⟩,rfl⟩:=h
      refine ⟨v,?_,hR,hb⟩
      rw [he,show (((1+A:Nat)):Int)=1+(A:Int) by omega]
def pw (i:Nat):Int:=if i=0 then 1 else if i=1 then 256 else if i=2 then 65536 else 16777216
theorem zIo (i:Nat):1≤pw i∧pw i≤16777216:=by unfold pw;repeat' split<;>omega
theorem zuy (i:Nat) (h:i≤3) (w:World):Calls Tryz.prog 94 #[.int .i64 (i:Int)] w fun e w'=>e= .returned (.int .i64 (pw i))∧w'=w:=by
 rcases (show i=0∨i=1∨i=2∨i=3 by omega) with rfl | rfl | rfl | rfl
 ·exact U.zFn w
 ·exact U.zh5 w
 ·exact U.zja w
 ·exact U.zmz w
theorem zF6 {n:Int} {B j:Nat} (h1:1≤B) (h4:B≤4) (hj:j<B):(numB n (B:Int))[j]?.getD 0=n/pw (B-1-j)%256:=by
 rcases (show B=1∨B=2∨B=3∨B=4 by omega) with rfl | rfl | rfl | rfl
 ·obtain rfl:j=0:=by omega
  simp [numB,pw]
 ·rcases (show j=0∨j=1 by omega) with rfl | rfl<;>simp [numB,pw]
 ·rcases (show j=0∨j=1∨j=2 by omega) with rfl | rfl | rfl<;>simp [numB,pw]
 ·rcases (show j=0∨j=1∨j=2∨j=3 by omega) with rfl | rfl | rfl | rfl<;>simp [numB,pw]
theorem zlr {xs:List Int} (h:Bytes xs):strCells (strOfNums xs)=xs.map (Value.int .u8):=by
 have e:V.ints (strOfNums xs)=xs:=V.zem xs h
 have e2:strCells (strOfNums xs)=(V.ints (strOfNums xs)).map (Value.int .u8):=by
  simp [strCells,V.ints]
 rw [e2,e]
theorem zEd (n k:Int) (b off m c:Nat) (l:List F) (w:World) (hp:U.zc8 n k=true) (hlen:l.length=m) (h0:1≤m) (h12:m≤12) (hb:b<w.heap.size) (hc:FCells w b off l):
  Calls Tryz.prog 63 #[.int .i64 n,.int .i64 k,.slice (some ⟨b,off,none⟩) m c] w fun e w'=>((fsF l≠0∧e= .returned (.tuple #[.string {data:= #[]},.int .i64 (fsF l)]))∨(fsF l=0∧200<(pkS n k l).size∧e= .returned (.tuple #[.string {data:= #[]},.int .i64 4]))∨(fsF l=0∧(pkS n k l).size≤200∧e= .returned (.tuple #[.string (pkS n k l),.int .i64 0])))∧Below w.heap.size w w':=by
 obtain ⟨i0,hi,hz0,hz1,hz2⟩:=info_parts V.info5
 obtain ⟨a0,a1,a2,a3⟩:=U.zb3 hp
 have HM:∀W,Calls Tryz.prog 62 #[.int .i64 n] W fun e w'=>e= .returned (.bool true)∧W=w':=fun W=>(U.rmay n W).mono fun e w' hh=>⟨by rw [hh.1,(U.zas n).2 ⟨a0,a1⟩],hh.2.symm⟩
 have HN:∀W,Calls Tryz.prog 93 #[.int .i64 n,.int .i64 k] W fun e w'=>e= .returned (.int .i64 (U.need n k))∧W=w':=fun W=>(U.zIw n k W hp).mono fun e w' hh=>⟨hh.1,hh.2.symm⟩
 have g1:¬k< -1:=by omega
 have g2:¬n≤k:=by omega
 have g3:¬(m:Int)=0:=by omega
 have g4:¬(12:Int)<(m:Int):=by omega
 obtain ⟨B,hB⟩:∃B:Nat,U.need n k=(B:Int):=⟨(U.need n k).toNat,by have:=U.zbz (U.zdm n k);omega⟩
 have hB14:1≤B∧B≤4:=by have:=U.zbz (U.zdm n k);omega
 have HPN:Hid (pkN n k=strOfNums ((B:Int)::numB n (B:Int))):=by
  show _=_
  apply zbb
  rw [ziz,hB,V.zem]
  intro z hz
  rcases List.mem_cons.1 hz with rfl | hz
  ·omega
  ·exact zhw n B z hz
 have HNL:Hid ((numB n (B:Int)).length=B):=by
  show _=_
  have:=zf2 (n:=n) (U.zdm n k)
  rw [hB] at this
  omega
 rw [hB] at HN
 have HL:Hid (l.length=m):=hlen
 have HC:Hid (FCells w b off l):=hc
 clear hlen hc hp hB
 obtain ⟨b1,b4⟩:=hB14
 have bel:Below w.heap.size w (w.alloc (.cells #[.int .u8 (B:Int)] 5)):=(Below.refl _ w).alloc (Nat.le_refl _) _
 have ow:(w.alloc (.cells #[.int .u8 (B:Int)] 5)).ownsRow w.heap.size 5 1 (.slice (some ⟨w.heap.size,0,none⟩) 1 1) 1 [.int .u8 (B:Int)]:=World.ownsRow_lit (base:=w.heap.size) (e:=5) (size:=1) w #[.int .u8 (B:Int)] 1 (Nat.le_refl _) (by decide) rfl
 have HOW:Hid ((w.alloc (.cells #[.int .u8 (B:Int)] 5)).ownsRow w.heap.size 5 1 (.slice (some ⟨w.heap.size,0,none⟩) 1 1) 1 [.int .u8 (B:Int)]):=ow
 clear ow
 go_enter Tryz.func63,Tryz.ntmps63
 go_wp2_with (first | (go_at_call 62;refine (HM _).mono ?_;rintro e w1 ⟨rfl,rfl⟩) | (go_at_call 93;refine (HN _).mono ?_;rintro e w1 ⟨rfl,rfl⟩))
 go_loopw [10,11] (fun s i wr=>∃(j:Nat) (t:Int),j≤B∧i= .int .i64 t∧t=(B:Int)-1-(j:Int)∧Hid (wr.ownsRow w.heap.size 5 1 s (j+1) (((B:Int)::(numB n (B:Int)).take j).map (Value.int .u8)))∧Hid (Below w.heap.size w wr)) (fun _ i _=>((intOf i)+1).toNat)
 case atStart=>exact ⟨0,(B:Int)-1,Nat.zero_le _,by go_num,by omega,HOW,bel⟩
 case round=>
  obtain ⟨j,t,hj,rfl,ht,HO,HBr⟩:=hrel
  by_cases hlt:j<B
  ·have hR:∀W,Calls Tryz.prog 94 #[.int .i64 ((B-1-j:Nat):Int)] W fun e w'=>e= .returned (.int .i64 (pw (B-1-j)))∧W=w':=fun W=>(zuy (B-1-j) (by omega) W).mono fun e w' hh=>⟨hh.1,hh.2.symm⟩
   rw [show ((B-1-j:Nat):Int)=t by omega] at hR
   have hpb:=zIo (B-1-j)
   have HY:Hid ((numB n (B:Int)).take (j+1)=(numB n (B:Int)).take j++ [n/pw (B-1-j)%256]):=by
    show _=_
    rw [List.take_succ_eq_append_getElem (by have:=HNL.out;omega),←zF6 b1 b4 hlt,List.getElem?_eq_getElem]
    rfl
   have t0:0≤t:=by omega
   have HT:Hid (t=(B:Int)-1-(j:Int)):=ht
   clear ht
   generalize pw (B-1-j)=r at hR hpb HY
   obtain ⟨r1,r2⟩:=hpb
   have q0:0≤n/r:=Int.ediv_nonneg a0 (by omega)
   have q1:n/r≤n:=Int.ediv_le_self _ a0
   have qt:(n/r).tmod 256=n/r%256:=Int.tmod_eq_emod_of_nonneg q0
   have qq:n.tdiv r=n/r:=Int.tdiv_eq_ediv_of_nonneg a0
   have m0:0≤n/r%256:=by omega
   have m1:n/r%256<256:=by omega
   have hBa:Below wr.heap.size wr (wr.alloc (.cells #[.int .u8 (n/r%256)] 5)):=(Below.refl _ wr).alloc (Nat.le_refl _) _
   have ho2:=own_below HO.out hBa
   have hB2:=HBr.out.trans (hBa.mono HBr.out.size)
   have hle:=hB2.size
   have hcn:=cell_one_new wr (.int .u8 (n/r%256)) 5
   have htt:t≤3:=by have:=HT.out;omega
   go_wp2_with (first | (go_at_call 94;refine (hR _).mono ?_;rintro e w1 ⟨rfl,rfl⟩) | (at_builtin;refine wpList_append_own_at _ rfl (.tmp 47) (.tmp 54) 96 rfl w.heap.size 5 i0 _ 1 1 Tryz.underlying96 hi hz0 hz1 hz2 rfl (by decide) _ _ _ rfl ho2 ⟨_,0,none⟩ 1 1 [Value.int .u8 (n/r%256)] rfl rfl hcn (by intro u hu;simp at hu;subst hu;rfl) (by unfold maxLen;omega) (by omega) hle ?_;intro v5 w5 ho5 hg5 _ hl5))
   have hB5:=hB2.grown hg5 hle (fun k e=>(ho2.lt k e).1)
   refine ⟨⟨j+1,t-1,by omega,by go_num,by have:=HT.out;omega,(show _ from ?_),hB5⟩,by simp [intOf];have:=HT.out;omega⟩
   show Hid _
   rw [HY.out,←List.cons_append,List.map_append]
   exact ho5
  ·obtain rfl:j=B:=by omega
   have g5:t<0:=by omega
   clear ht
   have hbyt:Bytes (((j:Nat):Int)::numB n (j:Int)):=fun z hz=>by
    rcases List.mem_cons.1 hz with rfl | hz
    ·omega
    ·exact zhw n j z hz
   have ho3:=HO.out
   rw [List.take_of_length_le (Nat.le_of_eq HNL.out),←zlr hbyt,←HPN.out] at ho3
   have hcv:=V.zhk ho3
   have hsn:(pkN n k).size≤5:=by
    rw [HPN.out,strOfNums_size,List.length_cons]
    have:=HNL.out
    omega
   clear ho3 hbyt HO HPN HNL HN HM HOW
   obtain ⟨sn,hsn'⟩:∃sn,pkN n k=sn:=⟨_,rfl⟩
   have HSN:Hid (∀l',pkS n k l'=sn++fsS l'):=fun l'=>by unfold pkS;rw [hsn']
   rw [hsn'] at hcv hsn
   clear hsn'
   go_wp2_with fail
   go_loopg [12,13] m (fun gg s i wq=>∃j2:Nat,j2≤m∧m-j2≤gg∧i= .int .i64 (j2:Int)∧s= .string (sn++fsS (l.take j2))∧Hid (∀q,q<j2→fF (fat l q)=0)∧Hid (Below w.heap.size w wq))
   case atStart=>exact ⟨0,Nat.zero_le _,by omega,rfl,by rw [show fsS (l.take 0)= {data:= #[]} from rfl,zC7],(fun q hq=>absurd hq (Nat.not_lt_zero _)),HBr⟩
   case round=>
    obtain ⟨j2,hj2,hgg,rfl,rfl,HA,HBq⟩:=hrel
    have hall:∀q,q<(l.take j2).length→fF (fat (l.take j2) q)=0:=fun q hq=>by
     rw [List.length_take] at hq
     have:=HA.out q (by omega)
     rwa [show fat (l.take j2) q=fat l q by simp [fat,List.getElem?_take,show q<j2 by omega]]
    have hsz1:(fsS (l.take j2)).size≤1452:=by
     have:=zmt hall (l.take j2).length (Nat.le_refl _)
     rw [List.take_length,List.length_take] at this
     omega
    clear hall
    by_cases hlt2:j2<m
    ·have g6:(j2:Int)<(m:Int):=by omega
     have hkl:j2<l.length:=by have:=HL.out;omega
     have hBq:=HBq.out
     obtain ⟨u,x0,x1,x2,r,hd⟩:=HC.out.below hb hBq j2 hkl
     have HNX:Hid (fsS (l.take (j2+1))=fsS (l.take j2)++fS (fat l j2)):=zm2 hkl
     have HAT:Hid (fF (fat l j2)≠0→fsF l=fF (fat l j2)):=fun hn=>zw7 l j2 hkl HA.out hn
     have HAL:Hid (fF (fat l j2)=0→∀q,q<j2+1→fF (fat l q)=0):=fun he q hq=>by
      by_cases e:q=j2
      ·rw [e];exact he
      ·exact HA.out q (by omega)
     have hlb:b<wr.heap.size:=Nat.lt_of_lt_of_le hb hBq.size
     clear hkl
     generalize fat l j2=f at *
     obtain ⟨kk,ns,d⟩:=f
     simp only at x0 x1 x2 r hd
     have HD:=znx kk u d ns wr r hd
     have HE:Hid (frF kk ns d=fF (kk,ns,d)):=rfl
     by_cases hz:frF kk ns d=0
     ·rw [hz] at HD
      have HY:=fun W (hbw:Below wr.heap.size wr W)=>zog kk u d ns W (r.below hbw) hz
      have hs2:(frS kk ns d).size≤121:=zlz hz
      have HA1:Hid (∀q,q<j2+1→fF (fat l q)=0):=HAL.out hz
      have HNs:Hid (fsS (l.take (j2+1))=fsS (l.take j2)++frS kk ns d):=HNX.out
      obtain ⟨au,cu,hu,_⟩:=id r
      subst hu
      clear hz HAL HAT HNX HE
      generalize frS kk ns d=sz at *
      obtain ⟨so,hso⟩:∃so,sn++fsS (l.take j2)=so:=⟨_,rfl⟩
      have hsos:so.size≤1457:=by rw [←hso,ByteArray.size_append];omega
      have HSO:Hid (sn++fsS (l.take (j2+1))=so++sz):=by show _=_;rw [HNs.out,←zrz,hso]
      rw [hso]
      clear hso HNs r
      have ta:so.size+sz.size≤9223372036854775807:=by omega
      generalize ns.length=nn at *
      go_wp2_with fail
      refine HD.mono ?_
      rintro e w6 ⟨rfl,hb6⟩
      have hB6:=hBq.trans (hb6.mono hBq.size)
      have HY6:=HY w6 hb6
      have y0:=(hb6.cell (p:=⟨b,off+j2*3,none⟩) hlb).trans x0
      have y1:=(hb6.cell (p:=⟨b,off+j2*3+1,none⟩) hlb).trans x1
      have y2:=(hb6.cell (p:=⟨b,off+j2*3+2,none⟩) hlb).trans x2
      clear HD HY x0 x1 x2
      go_wp2_with fail
      refine HY6.mono ?_
      rintro e w7 ⟨rfl,hb7⟩
      have hB7:=hB6.trans (hb7.mono hB6.size)
      go_wp2_with fail
      go_roundg (m-(j2+1))
      case measure=>omega
      case rel=>exact ⟨j2+1,by omega,Nat.le_refl _,by go_num,by rw [HSO.out],HA1,hB7⟩
     ·have HFS:Hid (fsF l=frF kk ns d):=HAT.out hz
      have HZ:Hid (frF kk ns d≠0):=hz
      obtain ⟨au,cu,hu,_⟩:=id r
      subst hu
      clear hz HAL HAT HNX HE r
      obtain ⟨ff,hff⟩:∃ff,frF kk ns d=ff:=⟨_,rfl⟩
      have hfz:¬ff=0:=by rw [←hff];exact HZ.out
      rw [hff] at HD
      have HFS2:Hid (fsF l=ff):=by show _=_;rw [HFS.out,hff]
      clear hff HZ HFS
      generalize ns.length=nn at *
      generalize sn++fsS (l.take j2)=so at *
      go_wp2_with fail
      refine HD.mono ?_
      rintro e w6 ⟨rfl,hb6⟩
      have hB6:=hBq.trans (hb6.mono hBq.size)
      go_wp2_with fail
      go_ret2
      exact ⟨.inl ⟨by rw [HFS2.out];exact hfz,by rw [HFS2.out];rfl⟩,hB6⟩
    ·obtain rfl:j2=m:=by omega
     have g6:¬(j2:Int)<(j2:Int):=by omega
     have HT:Hid (l.take j2=l):=List.take_of_length_le (by have:=HL.out;omega)
     have HZ:Hid (fsF l=0):=zrc l (fun q hq=>HA.out q (by have:=HL.out;omega))
     have HPK:Hid (pkS n k l=sn++fsS (l.take j2)):=by show _=_;rw [HSN.out,HT.out]
     have hsos:(sn++fsS (l.take j2)).size≤1457:=by rw [ByteArray.size_append];omega
     generalize sn++fsS (l.take j2)=so at *
     by_cases h200:200<so.size
     ·have g7:(200:Int)<(so.size:Int):=by omega
      go_wp2_with fail
      go_ret2
      exact ⟨.inr (.inl ⟨HZ.out,by rw [HPK.out];exact h200,rfl⟩),HBq.out⟩
     ·have g7:¬(200:Int)<(so.size:Int):=by omega
      go_wp2_with fail
      go_ret2
      exact ⟨.inr (.inr ⟨HZ.out,by rw [HPK.out];omega,by rw [HPK.out];rfl⟩),HBq.out⟩
theorem zE7 (n k:Int) (v:Value) (l:List F) (w:World) (hR:FRow w v l) (h:pkF n k l=0):Calls Tryz.prog 63 #[.int .i64 n,.int .i64 k,v] w fun e w'=>e= .returned (.tuple #[.string (pkS n k l),.int .i64 0])∧Below w.heap.size w w':=by
 obtain ⟨hp,h1,h2,h3,h4⟩:=zie h
 obtain ⟨ao,c,rfl,hl,hn,hz⟩:=hR
 rcases hz with e | ⟨b,off,rfl,hb,hc⟩
 ·rw [e] at h1;simp at h1
 ·refine (zEd n k b off _ c l w hp rfl h1 h2 hb hc).mono ?_
  rintro e w' ⟨⟨hh,_⟩ | ⟨_,h5,_⟩ | ⟨_,_,rfl⟩,hb⟩
  ·exact absurd h3 hh
  ·omega
  ·exact ⟨rfl,hb⟩
theorem zEk (s:ByteArray) (a n:Nat) (h:a≤s.size) (hn:n≤(s.extract a s.size).size):(s.extract a s.size).extract n (s.extract a s.size).size=s.extract (a+n) s.size:=by
 have hz:(s.extract a s.size).size=s.size-a:=by rw [ByteArray.size_extract];omega
 apply zbb
 rw [zae _ _ hn,zae _ _ h,zae _ _ (by omega),List.drop_drop]
theorem zDk (s:ByteArray) (next:Int) (w:World) (hm:U.mayB next=false):Calls Tryz.prog 64 #[.string s,.int .i64 next] w fun e w'=>e= .returned (.tuple #[.int .i64 0,.slice none 0 0,.int .i64 1])∧Below w.heap.size w w':=by
 have HM:=fun W=>U.rmay next W
 simp only [hm] at HM
 clear hm
 go_enter Tryz.func64,Tryz.ntmps64
 go_wp2_with (first | (go_at_call 62;refine (HM _).mono ?_;rintro e w1 ⟨rfl,rfl⟩))
 go_ret3
 exact ⟨rfl,Below.refl _ _⟩
theorem zE1 (s:ByteArray) (next:Int) (w:World) (hm:U.mayB next=true) (h:200<s.size) (hl:s.size≤9223372036854775807):Calls Tryz.prog 64 #[.string s,.int .i64 next] w fun e w'=>e= .returned (.tuple #[.int .i64 0,.slice none 0 0,.int .i64 4])∧Below w.heap.size w w':=by
 have HM:=fun W=>U.rmay next W
 simp only [hm] at HM
 clear hm
 have g2:(200:Int)<(s.size:Int):=by omega
 go_enter Tryz.func64,Tryz.ntmps64
 go_wp2_with (first | (go_at_call 62;refine (HM _).mono ?_;rintro e w1 ⟨rfl,rfl⟩))
 go_ret3
 exact ⟨rfl,Below.refl _ _⟩
theorem zFs (next:Int) (w:World) (hm:U.mayB next=true):Calls Tryz.prog 64 #[.string {data:= #[]},.int .i64 next] w fun e w'=>e= .returned (.tuple #[.int .i64 0,.slice none 0 0,.int .i64 2])∧Below w.heap.size w w':=by
 have HM:=fun W=>U.rmay next W
 simp only [hm] at HM
 clear hm
 go_enter Tryz.func64,Tryz.ntmps64
 go_wp2_with (first | (go_at_call 62;refine (HM _).mono ?_;rintro e w1 ⟨rfl,rfl⟩))
 go_ret3
 exact ⟨rfl,Below.refl _ _⟩
theorem zEx (s:ByteArray) (k:Int) (l:List Int) (next:Int) (w:World) (hm:U.mayB next=true)(hs:V.ints s=k::l) (hl:s.size≤200) (h:k<1):Calls Tryz.prog 64 #[.string s,.int .i64 next] w fun e w'=>e= .returned (.tuple #[.int .i64 0,.slice none 0 0,.int .i64 2])∧Below w.heap.size w w':=by
 have HM:=fun W=>U.rmay next W
 simp only [hm] at HM
 clear hm
 have g2:¬(200:Int)<(s.size:Int):=by omega
 have tl:s.size≤9223372036854775807:=by omega
 have hz:s.size=l.length+1:=by rw [←zaa,hs];rfl
 have hk:0≤k∧k<256:=zab s k (by rw [hs];simp)
 have hne:=zb0 (d:=s) (by omega)
 have hi0:=fun W=>zct s k l hs W
 clear hs
 go_enter Tryz.func64,Tryz.ntmps64
 go_wp2_with (first | (go_at_call 62;refine (HM _).mono ?_;rintro e w1 ⟨rfl,rfl⟩))
 go_ret3
 exact ⟨rfl,Below.refl _ _⟩
theorem zDp (s:ByteArray) (k:Int) (l:List Int) (next:Int) (w:World) (hm:U.mayB next=true)(hs:V.ints s=k::l) (hl:s.size≤200) (h:4<k):Calls Tryz.prog 64 #[.string s,.int .i64 next] w fun e w'=>e= .returned (.tuple #[.int .i64 0,.slice none 0 0,.int .i64 2])∧Below w.heap.size w w':=by
 have HM:=fun W=>U.rmay next W
 simp only [hm] at HM
 clear hm
 have g2:¬(200:Int)<(s.size:Int):=by omega
 have tl:s.size≤9223372036854775807:=by omega
 have hz:s.size=l.length+1:=by rw [←zaa,hs];rfl
 have hk:0≤k∧k<256:=zab s k (by rw [hs];simp)
 have hne:=zb0 (d:=s) (by omega)
 have hi0:=fun W=>zct s k l hs W
 clear hs
 have g3:¬k<1:=by omega
 go_enter Tryz.func64,Tryz.ntmps64
 go_wp2_with (first | (go_at_call 62;refine (HM _).mono ?_;rintro e w1 ⟨rfl,rfl⟩))
 go_ret3
 exact ⟨rfl,Below.refl _ _⟩
theorem zGh (s:ByteArray) (k:Int) (l:List Int) (next:Int) (w:World) (hm:U.mayB next=true)(hs:V.ints s=k::l) (hl:s.size≤200) (h1:1≤k) (h4:k≤4) (h:(l.length:Int)<k):Calls Tryz.prog 64 #[.string s,.int .i64 next] w fun e w'=>e= .returned (.tuple #[.int .i64 0,.slice none 0 0,.int .i64 2])∧Below w.heap.size w w':=by
 have HM:=fun W=>U.rmay next W
 simp only [hm] at HM
 clear hm
 have g2:¬(200:Int)<(s.size:Int):=by omega
 have tl:s.size≤9223372036854775807:=by omega
 have hz:s.size=l.length+1:=by rw [←zaa,hs];rfl
 have hk:0≤k∧k<256:=zab s k (by rw [hs];simp)
 have hne:=zb0 (d:=s) (by omega)
 have hi0:=fun W=>zct s k l hs W
 clear hs
 have g3:¬k<1:=by omega
 have g4:¬4<k:=by omega
 have g5:(s.size:Int)≤k:=by omega
 go_enter Tryz.func64,Tryz.ntmps64
 go_wp2_with (first | (go_at_call 62;refine (HM _).mono ?_;rintro e w1 ⟨rfl,rfl⟩))
 go_ret3
 exact ⟨rfl,Below.refl _ _⟩
theorem zE8 (s:ByteArray) (K:Nat) (l:List Int) (next:Int) (w:World) (hm:U.mayB next=true) (hs:V.ints s=(K:Int)::l) (hl:s.size≤200) (h1:1≤K) (h4:K≤4) (hK:K≤l.length) (hw:U.zch (big (l.take K)) K next=false):Calls Tryz.prog 64 #[.string s,.int .i64 next] w fun e w'=>e= .returned (.tuple #[.int .i64 0,.slice none 0 0,.int .i64 2])∧Below w.heap.size w w':=by
 have hz:s.size=l.length+1:=by rw [←zaa,hs];rfl
 have hne:=zb0 (d:=s) (by omega)
 have hi0:=fun W=>zct s K l hs W
 have g2:¬(200:Int)<(s.size:Int):=by omega
 have tl:s.size≤9223372036854775807:=by omega
 have g3:¬(K:Int)<1:=by omega
 have g4:¬(4:Int)<(K:Int):=by omega
 have g5:¬(s.size:Int)≤(K:Int):=by omega
 have HM:∀W,Calls Tryz.prog 62 #[.int .i64 next] W fun e w'=>e= .returned (.bool true)∧W=w':=fun W=>(U.rmay next W).mono fun e w' hh=>⟨by rw [hh.1,hm],hh.2.symm⟩
 have HIX:Hid (∀(j:Nat) (W:World),j<l.length→(Instr.index 9 (.string s) (.int .i64 ((j:Int)+1))).run Tryz.prog W= .ok (.int .u8 (l[j]?.getD 0)) W):=fun j W hj=>by
  have:=zco (d:=s) (k:=j+1) (by omega) W
  rw [hs,List.getElem?_cons_succ] at this
  exact this
 have HBY:Hid (Bytes l):=fun z hz=>zab s z (by rw [hs];simp [hz])
 have HKL:Hid (K≤l.length):=hK
 have HZ:Hid (s.size=l.length+1):=hz
 have H4:Hid (1≤K∧K≤4):=⟨h1,h4⟩
 have HW:Hid (∀W,Calls Tryz.prog 97 #[.int .i64 (big (l.take K)),.int .i64 (K:Int),.int .i64 next] W fun e w'=>e= .returned (.tuple #[.int .i64 0,.bool false])∧W=w'):=fun W=>(U.zyc _ _ next W hw).mono fun e w' hh=>⟨hh.1,hh.2.symm⟩
 clear hz hs hm hK
 go_enter Tryz.func64,Tryz.ntmps64
 go_wp2_with (first | (go_at_call 62;refine (HM _).mono ?_;rintro e w1 ⟨rfl,rfl⟩))
 go_loopw [9,10] (fun c i wr=>∃(j:Nat) (t:Int),j≤K∧i= .int .i64 t∧t=(j:Int)+1∧c= .int .i64 (big (l.take j))∧wr=w) (fun _ i _=>(5-intOf i).toNat)
 case atStart=>exact ⟨0,1,Nat.zero_le _,rfl,rfl,rfl,rfl⟩
 case round=>
  obtain ⟨j,t,hj,rfl,ht,rfl,hwr⟩:=hrel
  by_cases hlt:j<K
  ·have hjl:j<l.length:=by have:=HKL.out;omega
   have hix:=fun W=>HIX.out j W hjl
   have hbd:=zgg HBY.out j (by omega) (by have:=H4.out;omega)
   have HN:Hid (big (l.take (j+1))=256*big (l.take j)+l[j]?.getD 0):=zg0 hjl
   have hy:0≤l[j]?.getD 0∧l[j]?.getD 0<256:=by
    rw [List.getElem?_eq_getElem hjl]
    exact HBY.out _ (List.getElem_mem _)
   have g6:t≤(K:Int):=by omega
   have t4:t≤4:=by have:=H4.out;omega
   have t1:1≤t:=by omega
   rw [←ht] at hix
   have HT:Hid (t=(j:Int)+1):=ht
   have HWR:Hid (wr=w):=hwr
   clear hjl ht hwr
   generalize l[j]?.getD 0=y at hix hy HN
   generalize big (l.take j)=z at hbd HN
   obtain ⟨y0,y1⟩:=hy
   obtain ⟨z0,z1⟩:=hbd
   go_wp2_with fail
   exact ⟨⟨j+1,t+1,by omega,by go_num,by have:=HT.out;omega,by rw [HN.out],HWR.out⟩,by simp [intOf];omega⟩
  ·obtain rfl:j=K:=by omega
   have g6:¬t≤(j:Int):=by omega
   have HWz:=HW.out
   clear ht
   have hwr':=hwr.symm
   clear hwr
   subst hwr'
   generalize big (l.take j)=z at HWz
   go_wp2_with (first | (go_at_call 97;refine (HWz _).mono ?_;rintro e w1 ⟨rfl,rfl⟩))
   go_ret3
   exact ⟨rfl,Below.refl _ _⟩
abbrev zGr (s:ByteArray) (c:Nat) (n:Int) (w:World) (e:Ending) (w':World):Prop:=
 ((fin (rdL (s.extract c s.size))=none∧e= .returned (.tuple #[.int .i64 0,.slice none 0 0,.int .i64 2]))∨(∃l' v us,fin (rdL (s.extract c s.size))=some l'∧e= .returned (.tuple #[.int .i64 n,v,.int .i64 0])∧FOwn w' w.heap.size v us l'))∧Below w.heap.size w w'
theorem zxa (s:ByteArray) (K:Nat) (l:List Int) (next:Int) (w:World) (hm:U.mayB next=true) (hs:V.ints s=(K:Int)::l) (hl:s.size≤200) (h1:1≤K) (h4:K≤4) (hK:K≤l.length) (hw:U.zch (big (l.take K)) K next=true):Calls Tryz.prog 64 #[.string s,.int .i64 next] w (zGr s (1+K) (U.near (big (l.take K)) (U.rnd K) next) w):=by
 obtain ⟨i0,hi,hz0,hz1,hz2⟩:=info_parts zvb
 have hz:s.size=l.length+1:=by rw [←zaa,hs];rfl
 have hne:=zb0 (d:=s) (by omega)
 have hi0:=fun W=>zct s K l hs W
 have g2:¬(200:Int)<(s.size:Int):=by omega
 have tl:s.size≤9223372036854775807:=by omega
 have g3:¬(K:Int)<1:=by omega
 have g4:¬(4:Int)<(K:Int):=by omega
 have g5:¬(s.size:Int)≤(K:Int):=by omega
 have HM:∀W,Calls Tryz.prog 62 #[.int .i64 next] W fun e w'=>e= .returned (.bool true)∧W=w':=fun W=>(U.rmay next W).mono fun e w' hh=>⟨by rw [hh.1,hm],hh.2.symm⟩
 have HIX:Hid (∀(j:Nat) (W:World),j<l.length→(Instr.index 9 (.string s) (.int .i64 ((j:Int)+1))).run Tryz.prog W= .ok (.int .u8 (l[j]?.getD 0)) W):=fun j W hj=>by
  have:=zco (d:=s) (k:=j+1) (by omega) W
  rw [hs,List.getElem?_cons_succ] at this
  exact this
 have HBY:Hid (Bytes l):=fun z hz=>zab s z (by rw [hs];simp [hz])
 have HKL:Hid (K≤l.length):=hK
 have HZ:Hid (s.size=l.length+1):=hz
 have H4:Hid (1≤K∧K≤4):=⟨h1,h4⟩
 have HW:Hid (∀W,Calls Tryz.prog 97 #[.int .i64 (big (l.take K)),.int .i64 (K:Int),.int .i64 next] W fun e w'=>e= .returned (.tuple #[.int .i64 (U.near (big (l.take K)) (U.rnd K) next),.bool true])∧W=w'):=fun W=>(U.zsj _ _ next W hw).mono fun e w' hh=>⟨hh.1,hh.2.symm⟩
 obtain ⟨NN,hNN⟩:∃NN,U.near (big (l.take K)) (U.rnd K) next=NN:=⟨_,rfl⟩
 rw [hNN] at HW ⊢
 clear hNN hw
 clear hz hs hm hK
 go_enter Tryz.func64,Tryz.ntmps64
 go_wp2_with (first | (go_at_call 62;refine (HM _).mono ?_;rintro e w1 ⟨rfl,rfl⟩))
 go_loopw [9,10] (fun c i wr=>∃(j:Nat) (t:Int),j≤K∧i= .int .i64 t∧t=(j:Int)+1∧c= .int .i64 (big (l.take j))∧wr=w) (fun _ i _=>(5-intOf i).toNat)
 case atStart=>exact ⟨0,1,Nat.zero_le _,rfl,rfl,rfl,rfl⟩
 case round=>
  obtain ⟨j,t,hj,rfl,ht,rfl,hwr⟩:=hrel
  by_cases hlt:j<K
  ·have hjl:j<l.length:=by have:=HKL.out;omega
   have hix:=fun W=>HIX.out j W hjl
   have hbd:=zgg HBY.out j (by omega) (by have:=H4.out;omega)
   have HN:Hid (big (l.take (j+1))=256*big (l.take j)+l[j]?.getD 0):=zg0 hjl
   have hy:0≤l[j]?.getD 0∧l[j]?.getD 0<256:=by
    rw [List.getElem?_eq_getElem hjl]
    exact HBY.out _ (List.getElem_mem _)
   have g6:t≤(K:Int):=by omega
   have t4:t≤4:=by have:=H4.out;omega
   have t1:1≤t:=by omega
   rw [←ht] at hix
   have HT:Hid (t=(j:Int)+1):=ht
   have HWR:Hid (wr=w):=hwr
   clear hjl ht hwr
   generalize l[j]?.getD 0=y at hix hy HN
   generalize big (l.take j)=z at hbd HN
   obtain ⟨y0,y1⟩:=hy
   obtain ⟨z0,z1⟩:=hbd
   go_wp2_with fail
   exact ⟨⟨j+1,t+1,by omega,by go_num,by have:=HT.out;omega,by rw [HN.out],HWR.out⟩,by simp [intOf];omega⟩
  ·obtain rfl:j=K:=by omega
   have g6:¬t≤(j:Int):=by omega
   have HWz:=HW.out
   clear ht
   have hwr':=hwr.symm
   clear hwr
   subst hwr'
   generalize big (l.take j)=z at HWz
   have H200:Hid (s.size≤200):=hl
   clear HM HIX HBY hi0 hne g2 g3 g4 g5 HW hl
   go_wp2_with (first | (go_at_call 97;refine (HWz _).mono ?_;rintro e w1 ⟨rfl,rfl⟩))
   clear HWz
   go_loopg [13,14] s.size (fun gg s13 s14 wq=>∃(A:Nat) (L:List F) (us:List Value),s13= .int .i64 (A:Int)∧A≤s.size∧s.size-A≤gg∧L.length≤A∧Hid (FOwn wq w.heap.size s14 us L)∧Hid (rdLA L (s.extract A s.size)=rdL (s.extract (1+j) s.size))∧Hid (Below w.heap.size w wq))
   case atStart=>exact ⟨1+j,[],[],by go_num,by have:=HZ.out;have:=HKL.out;omega,by omega,by simp,FOwn.nil _ _,zlb _,Below.refl _ _⟩
   case round=>
    obtain ⟨A,L,us,rfl,hA,hgg,hLA,HO,HRD,HBq⟩:=hrel
    obtain ⟨a4,c4,hs4⟩:=zck HO.out.own
    subst hs4
    have h200:=H200.out
    have hex:(s.extract A s.size).size=s.size-A:=by rw [ByteArray.size_extract];omega
    by_cases hlt2:A<s.size
    ·have g7:(A:Int)<(s.size:Int):=by omega
     have hsl:=fun W=>zbm s A hA tl W
     have hr0:(s.extract A s.size).size≠0:=by omega
     have hr47:(s.extract A s.size).size≤140737488355328:=by omega
     cases hf:rdF (s.extract A s.size) with
     | none=>
      have HP:=zBv (s.extract A s.size) wr hr47 hf
      have HFN:Hid (fin (rdL (s.extract (1+j) s.size))=none):=by
       show _=_
       rw [←HRD.out,zoi hr0 hf];rfl
      simp only [zd4] at HP
      clear hf hr47 hr0 HRD hex
      generalize L.length=m at *
      generalize s.extract A s.size=r at *
      go_wp2_with (first | (go_at_call 98;refine HP.mono ?_;rintro e w1 ⟨rfl,hb1⟩;have hB1:=HBq.out.trans (hb1.mono HBq.out.size)))
      go_ret3
      exact ⟨.inl ⟨HFN.out,rfl⟩,hB1.alloc hB1.size _⟩
     | some y=>
      obtain ⟨⟨kk,ns,d⟩,nn⟩:=y
      have HP:=zu0 (s.extract A s.size) wr hr47 kk ns d nn hf
      obtain ⟨hgood,hn1,hn2⟩:=zj8 (L:=L) hf
      have HG:Hid (fF (kk,ns,d)=0):=hgood
      have HRD2:Hid (rdLA (L++ [(kk,ns,d)]) (s.extract (A+nn) s.size)=rdL (s.extract (1+j) s.size)):=by
       show _=_
       rw [←zEk s A nn hA hn2,←zom hr0 hf];exact HRD.out
      have hAn:A+nn≤s.size:=by omega
      clear hf hr47 hgood HRD hr0 hn2 hex
      generalize s.extract A s.size=r at *
      go_wp2_with fail
      refine HP.mono ?_
      rintro e w1 ⟨v1,rfl,ho1,hb1⟩
      obtain ⟨a1,c1,hv1⟩:=zck ho1
      subst hv1
      have hB1:=HBq.out.trans (hb1.mono HBq.out.size)
      have bel2:Below w1.heap.size w1 (w1.alloc (.cells #[.int .i64 kk,.slice a1 ns.length c1,.string d] 114)):=(Below.refl _ w1).alloc (Nat.le_refl _) _
      have bel3:Below w1.heap.size w1 ((w1.alloc (.cells #[.int .i64 kk,.slice a1 ns.length c1,.string d] 114)).alloc (.cells #[.int .i64 kk,.slice a1 ns.length c1,.string d] 114)):=bel2.alloc bel2.size _
      have hB3:=hB1.trans (bel3.mono hB1.size)
      have hO3:=(HO.out.below hb1).below bel3
      have ho3:=zid (ho1.below bel3) HBq.out.size
      have hcn:=za0 (w1.alloc (.cells #[.int .i64 kk,.slice a1 ns.length c1,.string d] 114)) kk (.slice a1 ns.length c1) d 114
      have h1c:=zcl kk a1 ns.length c1 d
      have hsz3:w.heap.size≤((w1.alloc (.cells #[.int .i64 kk,.slice a1 ns.length c1,.string d] 114)).alloc (.cells #[.int .i64 kk,.slice a1 ns.length c1,.string d] 114)).heap.size:=hB3.size
      have hszA:(w1.alloc (.cells #[.int .i64 kk,.slice a1 ns.length c1,.string d] 114)).heap.size=w1.heap.size+1:=by simp
      rw [hszA] at hcn
      have HAn:Hid (A+nn≤s.size∧1≤nn∧L.length≤A):=⟨hAn,hn1,hLA⟩
      have hAi:(A:Int)+(nn:Int)≤200:=by omega
      clear HP bel2 bel3 hB1 hszA
      go_wp2_with (at_builtin;refine wpList_append_own_at _ rfl (.tmp 85) (.tmp 87) 104 rfl w.heap.size 114 i0 _ 3 48 Tryz.underlying104 hi hz0 hz1 hz2 rfl (by decide) _ _ (fcs us L) rfl hO3.own ⟨w1.heap.size+1,0,none⟩ 1 1 [Value.int .i64 kk,.slice a1 ns.length c1,.string d] rfl rfl hcn h1c (by unfold maxLen;omega) (by omega) hsz3 ?_;intro v5 w5 ho5 hg5 _ hl5)
      have hO5:=hO3.app (f:=(kk,ns,d)) ho3 HG.out ho5 hg5
      have hB5:=hB3.grown hg5 hsz3 (fun k e=>(hO3.own.lt k e).1)
      go_roundg (s.size-(A+nn))
      case measure=>have:=HAn.out;omega
      case rel=>exact ⟨A+nn,L++ [(kk,ns,d)],us++ [Value.slice a1 ns.length c1],by go_num,HAn.out.1,Nat.le_refl _,by rw [List.length_append];have:=HAn.out;simp;omega,hO5,HRD2.out,hB5⟩
    ·obtain rfl:A=s.size:=by omega
     have g7:¬(s.size:Int)<(s.size:Int):=by omega
     have HE:Hid (rdL (s.extract (1+j) s.size)=some L):=by
      show _=_
      rw [←HRD.out];exact zsa (by omega)
     clear HRD hex
     by_cases hm0:L.length=0
     ·have HFN:Hid (fin (rdL (s.extract (1+j) s.size))=none):=by
       show _=_
       rw [HE.out,List.eq_nil_of_length_eq_zero hm0];rfl
      rw [hm0] at *
      go_wp2_with fail
      go_ret3
      exact ⟨.inl ⟨HFN.out,rfl⟩,HBq.out⟩
     ·have g8:¬(L.length:Int)=0:=by omega
      by_cases hm12:12<L.length
      ·have g9:(12:Int)<(L.length:Int):=by omega
       have HFN:Hid (fin (rdL (s.extract (1+j) s.size))=none):=by
        show _=_
        rw [HE.out,zzu hm12]
       go_wp2_with fail
       go_ret3
       exact ⟨.inl ⟨HFN.out,rfl⟩,HBq.out⟩
      ·have g9:¬(12:Int)<(L.length:Int):=by omega
       have HFN:Hid (fin (rdL (s.extract (1+j) s.size))=some L):=by
        show _=_
        rw [HE.out,zm0 (by omega) (by omega)]
       go_wp2_with fail
       go_ret3
       exact ⟨.inr ⟨L,_,us,HFN.out,rfl,HO.out⟩,HBq.out⟩
theorem zAk (s:ByteArray) (next:Int) (w:World) (hl:s.size≤9223372036854775807) (h:opF s next≠0):Calls Tryz.prog 64 #[.string s,.int .i64 next] w fun e w'=>e= .returned (.tuple #[.int .i64 0,.slice none 0 0,.int .i64 (opF s next)])∧Below w.heap.size w w':=by
 rcases zCy h with ⟨hm,e⟩ | ⟨hm,h1,e⟩ | ⟨hm,h1,h2,e⟩
 ·rw [e];exact zDk s next w hm
 ·rw [e];exact zE1 s next w hm h1 hl
 ·rw [e]
  cases hs:V.ints s with
  | nil=>
   obtain rfl:s= {data:= #[]}:=zc1 (by rw [←zaa,hs];rfl)
   exact zFs next w hm
  | cons k l=>
   have hz:s.size=l.length+1:=by rw [←zaa,hs];rfl
   by_cases k1:k<1
   ·exact zEx s k l next w hm hs h1 k1
   ·by_cases k4:4<k
    ·exact zDp s k l next w hm hs h1 k4
    ·by_cases kl:(l.length:Int)<k
     ·exact zGh s k l next w hm hs h1 (by omega) (by omega) kl
     ·obtain ⟨K,rfl⟩:∃K:Nat,k=(K:Int):=⟨k.toNat,by omega⟩
      have hlb:U.lenB (K:Int)=true:=decide_eq_true (by omega)
      cases hw:U.zch (big (l.take K)) K next with
      | false=>exact zE8 s K l next w hm hs h1 (by omega) (by omega) (by omega) hw
      | true=>
       have hn:rdN s next=some (U.near (big (l.take K)) (U.rnd K) next,1+K):=by
        unfold rdN
        rw [hs]
        simp only [Int.toNat_natCast]
        rw [if_neg (fun hh=>by rcases hh with e | e;rw [hlb] at e;cases e;exact kl e),if_neg (by rw [hw];decide)]
       refine (zxa s K l next w hm hs h1 (by omega) (by omega) (by omega) hw).mono ?_
       rintro e w' ⟨⟨_,rfl⟩ | ⟨l',v,us,h3,_⟩,hb⟩
       ·exact ⟨rfl,hb⟩
       ·unfold rdP at h2
        rw [hn,Option.bind_some,h3] at h2
        cases h2
theorem zov (s:ByteArray) (next:Int) (w:World) (hm:U.mayB next=true) (hl:s.size≤200) (n:Int) (l:List F) (h:rdP s next=some (n,l)):Calls Tryz.prog 64 #[.string s,.int .i64 next] w fun e w'=>∃v us,e= .returned (.tuple #[.int .i64 n,v,.int .i64 0])∧FOwn w' w.heap.size v us l∧Below w.heap.size w w':=by
 obtain ⟨c,h1,h2⟩:=zj6 h
 unfold rdN at h1
 cases hs:V.ints s with
 | nil=>rw [hs] at h1;cases h1
 | cons k l0=>
  rw [hs] at h1
  simp only at h1
  split at h1
  ·cases h1
  ·rename_i hh
   split at h1
   ·cases h1
   ·rename_i hw
    simp only [Option.some.injEq,Prod.mk.injEq] at h1
    obtain ⟨rfl,rfl⟩:=h1
    have hlb:U.lenB k=true:=by
     cases e:U.lenB k with
     | true=>rfl
     | false=>exact absurd (Or.inl e) hh
    have hk:=U.zbz hlb
    have hkl:¬(l0.length:Int)<k:=fun e=>hh (Or.inr e)
    obtain ⟨K,rfl⟩:∃K:Nat,k=(K:Int):=⟨k.toNat,by omega⟩
    rw [Int.toNat_natCast] at h2 hw ⊢
    have hw':U.zch (big (l0.take K)) K next=true:=by simpa using hw
    refine (zxa s K l0 next w hm hs hl (by omega) (by omega) (by omega) hw').mono ?_
    rintro e w' ⟨⟨h3,_⟩ | ⟨l',v,us,h3,rfl,ho⟩,hb⟩
    ·rw [h2] at h3;cases h3
    ·rw [h2] at h3;cases h3
     exact ⟨v,us,rfl,ho,hb⟩
end Go.Proofs.YtdnehibcpkjafaaGreatDoor
