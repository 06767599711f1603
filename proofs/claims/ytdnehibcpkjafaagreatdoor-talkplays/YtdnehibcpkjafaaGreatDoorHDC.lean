/- What TalkPlays needs. -/
import Derived.Test.YtdnehibcpkjafaaGreatDoorHDB
import Derived.Test.YtdnehibcpkjafaaGreatDoorHLX
set_option linter.unusedVariables false
set_option linter.unusedSimpArgs false
set_option maxRecDepth 100000
set_option maxHeartbeats 8000000
namespace Go.Proofs.YtdnehibcpkjafaaGreatDoor
open Go.RowKit Go.Lib Go.Sort
theorem zEi {w:World} {B eb sb cb:Nat} {vm vc:Value} {us:List Value} {md:List (List Pc)} {e:En} (h:DO w B eb vm vc sb cb us md e) (b:ByteArray) (hl:b.size≤9223372036854775807) (hnx:zai e≤1073741823) (h0:opF b (zai e)≠0):Calls Tryz.prog 40 #[.pointer (some ⟨eb,0,none⟩),.string b] w fun ex w'=>ex= .returned (.int .i64 (opF b (zai e)))∧Below w.heap.size w w':=by
 have HO:Hid (DO w B eb vm vc sb cb us md e):=h
 have HR:Hid (Row w vc e.cm):=zbo h.cm (by have:=((zbv e.cm).1 h.inv.cm).1;omega)
 have hlt:=h.lt
 have c64:=h.cl 64 (by omega)
 rw [zjq] at c64
 obtain ⟨aoc,cc,hvc⟩:=za3 h.cm
 rw [hvc] at c64 HR
 have HVC:Hid (vc= .slice aoc e.cm.length cc):=hvc
 have HNX:Hid (zai e≤1073741823):=hnx
 clear hvc hnx
 have HOP:=zAk b (zai e) w hl h0
 generalize opF b (zai e)=fo at h0 HOP
 clear h hl
 go_enter Tryz.func40,Tryz.ntmps40
 go_upto_if 29 with fail
 go_cut [5] (fun s5 wx=>s5= .int .i64 (zai e)∧w=wx)
 case first=>
  cases hcm:e.cm with
  | nil=>
   have hn0:zai e=0:=by unfold zai;rw [hcm]
   rw [hcm] at c64
   have HN0:Hid (zai e=0):=hn0
   clear hn0
   have gl:¬(0:Int)<(([]:List R).length:Int):=by simp
   go_wp2_with fail
   go_meet
   exact ⟨by rw [HN0.out],rfl⟩
  | cons r0 rs=>
   have hn0:zai e=r0.2+1:=by unfold zai;rw [hcm]
   have hl0:0<e.cm.length:=by rw [hcm];simp
   obtain ⟨b0,o0,hao,hb0,hC⟩:∃b o,aoc=some ⟨b,o,none⟩∧b<w.heap.size∧Cells w b o e.cm:=by
    obtain ⟨ao',c',h1,_,_,h2⟩:=HR.out
    injection h1 with i1 i2 i3
    subst i1
    rcases h2 with h2 | h2
    ·rw [h2] at hl0;simp at hl0
    ·exact h2
   subst hao
   obtain ⟨_,c1⟩:=hC 0 hl0
   have c1':w.cell? ⟨b0,o0+1,none⟩=some (.int .i64 r0.2):=by
    rw [show o0+0*2+1=o0+1 by omega] at c1
    rw [c1]
    simp [at',hcm]
   have hn1:=HNX.out
   rw [hn0] at hn1
   have hmx:¬(1073741823:Int)<r0.2+1:=by omega
   have hlo:0≤r0.2:=by
    have hg:=(zbv e.cm).1 HO.out.inv.cm
    have:=zb8 hg.2.2 r0 (by rw [hcm];exact List.mem_cons_self)
    have:=(hg.2.1 r0 (by rw [hcm];exact List.mem_cons_self)).1
    omega
   generalize r0.2=z at *
   have HN0:Hid (zai e=z+1):=hn0
   have gl:(0:Int)<((r0::rs).length:Int):=by simp
   rw [hcm] at c64
   generalize hln:(r0::rs).length=ln at c64 gl ⊢
   clear hC c1 hn0 hln hcm hl0
   go_wp2_with fail
   go_meet
   exact ⟨by rw [HN0.out],rfl⟩
 case rest=>
 obtain ⟨rfl,rfl⟩:=hcut
 go_wp2_with fail
 refine HOP.mono ?_
 rintro ex w1 ⟨rfl,hb1⟩
 clear HOP
 go_wp2_with fail
 go_ret
 exact ⟨rfl,hb1⟩
theorem zF4 {w:World} {B eb sb cb:Nat} {vm vc:Value} {us:List Value} {md:List (List Pc)} {e:En} (h:DO w B eb vm vc sb cb us md e) (b:ByteArray) (hnx:zai e≤1073741823) (hl:b.size≤200) (n:Int) (fs:List F) (h1:rdP b (zai e)=some (n,fs)) (hmem:memB e.cm n=true):Calls Tryz.prog 40 #[.pointer (some ⟨eb,0,none⟩),.string b] w fun ex w'=>ex= .returned (.int .i64 0)∧Below w.heap.size w w':=by
 have HO:Hid (DO w B eb vm vc sb cb us md e):=h
 have HR:Hid (Row w vc e.cm):=zbo h.cm (by have:=((zbv e.cm).1 h.inv.cm).1;omega)
 have hlt:=h.lt
 have c64:=h.cl 64 (by omega)
 rw [zjq] at c64
 obtain ⟨aoc,cc,hvc⟩:=za3 h.cm
 rw [hvc] at c64 HR
 have HVC:Hid (vc= .slice aoc e.cm.length cc):=hvc
 have HNX:Hid (zai e≤1073741823):=hnx
 clear hvc hnx
 have HOP:=zov b (zai e) w ((U.zas _).2 ⟨ziq h.inv,HNX.out⟩) hl n fs h1
 have HIN:=fun X (hX:Below w.heap.size w X)=>Lx.zn4 _ e.cm n X (HR.out.below hX)
 rw [hmem] at HIN
 clear h hl h1 hmem
 go_enter Tryz.func40,Tryz.ntmps40
 go_upto_if 29 with fail
 go_cut [5] (fun s5 wx=>s5= .int .i64 (zai e)∧w=wx)
 case first=>
  cases hcm:e.cm with
  | nil=>
   have hn0:zai e=0:=by unfold zai;rw [hcm]
   rw [hcm] at c64
   have HN0:Hid (zai e=0):=hn0
   clear hn0
   have gl:¬(0:Int)<(([]:List R).length:Int):=by simp
   go_wp2_with fail
   go_meet
   exact ⟨by rw [HN0.out],rfl⟩
  | cons r0 rs=>
   have hn0:zai e=r0.2+1:=by unfold zai;rw [hcm]
   have hl0:0<e.cm.length:=by rw [hcm];simp
   obtain ⟨b0,o0,hao,hb0,hC⟩:∃b o,aoc=some ⟨b,o,none⟩∧b<w.heap.size∧Cells w b o e.cm:=by
    obtain ⟨ao',c',h1,_,_,h2⟩:=HR.out
    injection h1 with i1 i2 i3
    subst i1
    rcases h2 with h2 | h2
    ·rw [h2] at hl0;simp at hl0
    ·exact h2
   subst hao
   obtain ⟨_,c1⟩:=hC 0 hl0
   have c1':w.cell? ⟨b0,o0+1,none⟩=some (.int .i64 r0.2):=by
    rw [show o0+0*2+1=o0+1 by omega] at c1
    rw [c1]
    simp [at',hcm]
   have hn1:=HNX.out
   rw [hn0] at hn1
   have hmx:¬(1073741823:Int)<r0.2+1:=by omega
   have hlo:0≤r0.2:=by
    have hg:=(zbv e.cm).1 HO.out.inv.cm
    have:=zb8 hg.2.2 r0 (by rw [hcm];exact List.mem_cons_self)
    have:=(hg.2.1 r0 (by rw [hcm];exact List.mem_cons_self)).1
    omega
   generalize r0.2=z at *
   have HN0:Hid (zai e=z+1):=hn0
   have gl:(0:Int)<((r0::rs).length:Int):=by simp
   rw [hcm] at c64
   generalize hln:(r0::rs).length=ln at c64 gl ⊢
   clear hC c1 hn0 hln hcm hl0
   go_wp2_with fail
   go_meet
   exact ⟨by rw [HN0.out],rfl⟩
 case rest=>
 obtain ⟨rfl,rfl⟩:=hcut
 go_wp2_with fail
 refine HOP.mono ?_
 rintro ex w1 ⟨v1,us1,rfl,hF1,hb1⟩
 have q64:=(hb1.cell (p:=⟨eb,64,none⟩) hlt).trans c64
 have hb2:eb<w1.heap.size:=Nat.lt_of_lt_of_le hlt hb1.size
 obtain ⟨a1,c1,hv1⟩:=za3 hF1.own
 subst hv1
 clear HOP hF1
 go_wp2_with fail
 refine (HIN _ hb1).mono ?_
 rintro ex w2 ⟨rfl,hb3⟩
 go_wp2_with fail
 go_ret
 exact ⟨rfl,hb1.trans (hb3.mono hb1.size)⟩
end Go.Proofs.YtdnehibcpkjafaaGreatDoor
