/- What TalkPlays needs. -/
import Derived.Test.YtdnehibcpkjafaaGreatDoorHF
set_option linter.unusedVariables false
set_option linter.unusedSimpArgs false
set_option maxRecDepth 100000
set_option maxHeartbeats 8000000
namespace Go.Proofs.YtdnehibcpkjafaaGreatDoor.U
open Go.RowKit
def mayB (n:Int):Bool:=decide (0≤n∧n≤1073741823)
theorem zad {n:Int} (h:mayB n=true):0≤n∧n≤1073741823:=of_decide_eq_true h
theorem zhp {n:Int} (h:mayB n=false):n<0∨1073741823<n:=by
 have:¬(0≤n∧n≤1073741823):=of_decide_eq_false h
 omega
theorem zyy (n:Int) (w:World) (h0:0≤n) (h1:n≤1073741823):
  Calls Tryz.prog 125 #[.int .i64 n] w fun e w'=>e= .returned (.bool true)∧w'=w:=by
 go_enter Tryz.func125,Tryz.ntmps125
 go_wp2
 go_ret
 exact ⟨rfl,rfl⟩
theorem zAv (n:Int) (w:World) (h0:n<0):
  Calls Tryz.prog 125 #[.int .i64 n] w fun e w'=>e= .returned (.bool false)∧w'=w:=by
 go_enter Tryz.func125,Tryz.ntmps125
 go_wp2
 go_ret
 exact ⟨rfl,rfl⟩
theorem zz2 (n:Int) (w:World) (h0:1073741823<n):
  Calls Tryz.prog 125 #[.int .i64 n] w fun e w'=>e= .returned (.bool false)∧w'=w:=by
 go_enter Tryz.func125,Tryz.ntmps125
 go_wp2
 go_ret
 exact ⟨by simp<;>omega,rfl⟩
theorem isnum (n:Int) (w:World):
    Calls Tryz.prog 125 #[.int .i64 n] w fun e w'=>e= .returned (.bool (mayB n))∧w'=w:=by
  cases h:mayB n with
  | true=>exact zyy n w (zad h).1 (zad h).2
  | false=>
   rcases zhp h with h | h
   · exact zAv n w h
   · exact zz2 n w h
def lenB (b:Int):Bool:=decide (1≤b∧b≤4)
theorem zbz {b:Int} (h:lenB b=true):b=1∨b=2∨b=3∨b=4:=by
 have:1≤b∧b≤4:=of_decide_eq_true h
 omega
theorem zya {b:Int} (h:lenB b=false):b<1∨4<b:=by
 have:¬(1≤b∧b≤4):=of_decide_eq_false h
 omega
theorem zwv (b:Int) (w:World) (h0:1≤b) (h1:b≤4):
  Calls Tryz.prog 127 #[.int .i64 b] w fun e w'=>e= .returned (.bool true)∧w'=w:=by
 go_enter Tryz.func127,Tryz.ntmps127
 go_wp2
 go_ret
 exact ⟨rfl,rfl⟩
theorem zB1 (b:Int) (w:World) (h0:b<1):
  Calls Tryz.prog 127 #[.int .i64 b] w fun e w'=>e= .returned (.bool false)∧w'=w:=by
 go_enter Tryz.func127,Tryz.ntmps127
 go_wp2
 go_ret
 exact ⟨rfl,rfl⟩
theorem zCg (b:Int) (w:World) (h0:4<b):
  Calls Tryz.prog 127 #[.int .i64 b] w fun e w'=>e= .returned (.bool false)∧w'=w:=by
 go_enter Tryz.func127,Tryz.ntmps127
 go_wp2
 go_ret
 exact ⟨by simp<;>omega,rfl⟩
theorem zjx (b:Int) (w:World):
    Calls Tryz.prog 127 #[.int .i64 b] w fun e w'=>e= .returned (.bool (lenB b))∧w'=w:=by
  cases h:lenB b with
  | true=>exact zwv b w (by rcases zbz h with h | h | h | h<;>omega) (by rcases zbz h with h | h | h | h<;>omega)
  | false=>
   rcases zya h with h | h
   · exact zB1 b w h
   · exact zCg b w h
def rnd (b:Int):Int:=if b=1 then 256 else if b=2 then 65536 else if b=3 then 16777216 else 4294967296
theorem zar (b:Int):256≤rnd b∧rnd b≤4294967296:=by unfold rnd;repeat' split<;>omega
theorem znf (w:World):
  Calls Tryz.prog 126 #[.int .i64 1] w fun e w'=>e= .returned (.int .i64 256)∧w'=w:=by
 go_enter Tryz.func126,Tryz.ntmps126
 go_wp2
 go_ret
 exact ⟨rfl,rfl⟩
theorem zro (w:World):
  Calls Tryz.prog 126 #[.int .i64 2] w fun e w'=>e= .returned (.int .i64 65536)∧w'=w:=by
 go_enter Tryz.func126,Tryz.ntmps126
 go_wp2
 go_ret
 exact ⟨rfl,rfl⟩
theorem zyp (w:World):
  Calls Tryz.prog 126 #[.int .i64 3] w fun e w'=>e= .returned (.int .i64 16777216)∧w'=w:=by
 go_enter Tryz.func126,Tryz.ntmps126
 go_wp2
 go_ret
 exact ⟨rfl,rfl⟩
theorem zCw (w:World):
  Calls Tryz.prog 126 #[.int .i64 4] w fun e w'=>e= .returned (.int .i64 4294967296)∧w'=w:=by
 go_enter Tryz.func126,Tryz.ntmps126
 go_wp2
 go_ret
 exact ⟨rfl,rfl⟩
theorem cuts (b:Int) (w:World) (h:lenB b=true):
  Calls Tryz.prog 126 #[.int .i64 b] w fun e w'=>e= .returned (.int .i64 (rnd b))∧w'=w:=by
 rcases zbz h with rfl | rfl | rfl | rfl
 ·exact znf w
 ·exact zro w
 ·exact zyp w
 ·exact zCw w
theorem zD1 (n b:Int) (w:World) (h:mayB n=true) (hb:lenB b=true):
  Calls Tryz.prog 100 #[.int .i64 n,.int .i64 b] w fun e w'=>e= .returned (.tuple #[.int .i64 (n%rnd b),.nilIface])∧w'=w:=by
 obtain ⟨h0,h1⟩:=zad h
 go_enter Tryz.func100,Tryz.ntmps100
 go_wp2_with fail
 refine (isnum n _).mono ?_
 rintro e w1 ⟨rfl,rfl⟩
 rw [h]
 go_wp2_with fail
 refine (zjx b _).mono ?_
 rintro e w1 ⟨rfl,rfl⟩
 rw [hb]
 go_wp2_with fail
 refine (cuts b _ hb).mono ?_
 rintro e w1 ⟨rfl,rfl⟩
 have hr:256≤rnd b∧rnd b≤4294967296:=zar b
 generalize hrr:rnd b=r at hr ⊢
 obtain ⟨hr0,hr1⟩:=hr
 have ht:n.tmod r=n%r:=Int.tmod_eq_emod_of_nonneg h0
 have hm0:0≤n%r:=Int.emod_nonneg n (by omega)
 have hm1:n%r<r:=Int.emod_lt_of_pos n (by omega)
 go_wp2
 go_ret2
 rw [←hrr];exact ⟨rfl,rfl⟩
def need (n known:Int):Int:=if 2*(n-known)≤256 then 1 else if 2*(n-known)≤65536 then 2 else if 2*(n-known)≤16777216 then 3 else 4
theorem zdm (n known:Int):lenB (need n known)=true:=by unfold need;(repeat' split)<;>rfl
def zc8 (n known:Int):Bool:=decide (0≤n∧n≤1073741823∧ -1≤known∧known<n)
theorem zb3 {n known:Int} (h:zc8 n known=true):0≤n∧n≤1073741823∧ -1≤known∧known<n:=of_decide_eq_true h
theorem zB3 {n known:Int} (h:zc8 n known=false):mayB n=false∨(mayB n=true∧known< -1)∨(mayB n=true∧ -1≤known∧n≤known):=by
 have h':¬(0≤n∧n≤1073741823∧ -1≤known∧known<n):=of_decide_eq_false h
 cases hm:mayB n with
 | false=>exact Or.inl rfl
 | true=>
  obtain ⟨a,b⟩:=zad hm
  right
  by_cases c:known< -1
  ·exact Or.inl ⟨rfl,c⟩
  ·exact Or.inr ⟨rfl,by omega,by omega⟩
theorem zA0 (n k:Int) (w:World) (h:mayB n=false):
  Calls Tryz.prog 99 #[.int .i64 n,.int .i64 k] w fun e w'=>e= .returned (.tuple #[.int .i64 0,.iface 78 (.int .i64 1)])∧w'=w:=by
 go_enter Tryz.func99,Tryz.ntmps99
 go_wp2_with fail
 refine (isnum n _).mono ?_
 rintro e w1 ⟨rfl,rfl⟩
 rw [h]
 go_wp2
 go_ret2
 exact ⟨rfl,rfl⟩
theorem zzy (n k:Int) (w:World) (h:mayB n=true) (hk:k< -1):
  Calls Tryz.prog 99 #[.int .i64 n,.int .i64 k] w fun e w'=>e= .returned (.tuple #[.int .i64 0,.iface 78 (.int .i64 1)])∧w'=w:=by
 go_enter Tryz.func99,Tryz.ntmps99
 go_wp2_with fail
 refine (isnum n _).mono ?_
 rintro e w1 ⟨rfl,rfl⟩
 rw [h]
 go_wp2
 go_ret2
 exact ⟨rfl,rfl⟩
theorem zAr (n k:Int) (w:World) (h:mayB n=true) (hk: -1≤k) (hn:n≤k):
  Calls Tryz.prog 99 #[.int .i64 n,.int .i64 k] w fun e w'=>e= .returned (.tuple #[.int .i64 0,.iface 78 (.int .i64 1)])∧w'=w:=by
 go_enter Tryz.func99,Tryz.ntmps99
 go_wp2_with fail
 refine (isnum n _).mono ?_
 rintro e w1 ⟨rfl,rfl⟩
 rw [h]
 go_wp2
 go_ret2
 exact ⟨rfl,rfl⟩
theorem zEv (n k:Int) (w:World) (h:zc8 n k=false):
  Calls Tryz.prog 99 #[.int .i64 n,.int .i64 k] w fun e w'=>e= .returned (.tuple #[.int .i64 0,.iface 78 (.int .i64 1)])∧w'=w:=by
 rcases zB3 h with h | ⟨h,h1⟩ | ⟨h,h1,h2⟩
 ·exact zA0 n k w h
 ·exact zzy n k w h h1
 ·exact zAr n k w h h1 h2
theorem zHd (n k:Int) (w:World) (h:zc8 n k=true) (hhi:2*(n-k)≤256):
  Calls Tryz.prog 99 #[.int .i64 n,.int .i64 k] w fun e w'=>e= .returned (.tuple #[.int .i64 1,.nilIface])∧w'=w:=by
 obtain ⟨h0,h1,h2,h3⟩:=zb3 h
 have hm:mayB n=true:=decide_eq_true ⟨h0,h1⟩
 go_enter Tryz.func99,Tryz.ntmps99
 go_wp2_with fail
 refine (isnum n _).mono ?_
 rintro e w1 ⟨rfl,rfl⟩
 rw [hm]
 go_wp2_with fail
 refine wp_loop_rounds 2 ?_
 rw [rounds_succ]
 go_wp2_with fail
 refine (znf _).mono ?_
 rintro e w1 ⟨rfl,rfl⟩
 go_wp2_with fail
 go_ret2
 exact ⟨rfl,rfl⟩
theorem zHr (n k:Int) (w:World) (h:zc8 n k=true) (hlo:256<2*(n-k)) (hhi:2*(n-k)≤65536):
  Calls Tryz.prog 99 #[.int .i64 n,.int .i64 k] w fun e w'=>e= .returned (.tuple #[.int .i64 2,.nilIface])∧w'=w:=by
 obtain ⟨h0,h1,h2,h3⟩:=zb3 h
 have hm:mayB n=true:=decide_eq_true ⟨h0,h1⟩
 go_enter Tryz.func99,Tryz.ntmps99
 go_wp2_with fail
 refine (isnum n _).mono ?_
 rintro e w1 ⟨rfl,rfl⟩
 rw [hm]
 go_wp2_with fail
 refine wp_loop_rounds 3 ?_
 rw [rounds_succ]
 go_wp2_with fail
 refine (znf _).mono ?_
 rintro e w1 ⟨rfl,rfl⟩
 go_wp2_with fail
 rw [rounds_succ]
 go_wp2_with fail
 refine (zro _).mono ?_
 rintro e w1 ⟨rfl,rfl⟩
 go_wp2_with fail
 go_ret2
 exact ⟨rfl,rfl⟩
theorem zGu (n k:Int) (w:World) (h:zc8 n k=true) (hlo:65536<2*(n-k)) (hhi:2*(n-k)≤16777216):
  Calls Tryz.prog 99 #[.int .i64 n,.int .i64 k] w fun e w'=>e= .returned (.tuple #[.int .i64 3,.nilIface])∧w'=w:=by
 obtain ⟨h0,h1,h2,h3⟩:=zb3 h
 have hm:mayB n=true:=decide_eq_true ⟨h0,h1⟩
 go_enter Tryz.func99,Tryz.ntmps99
 go_wp2_with fail
 refine (isnum n _).mono ?_
 rintro e w1 ⟨rfl,rfl⟩
 rw [hm]
 go_wp2_with fail
 refine wp_loop_rounds 4 ?_
 rw [rounds_succ]
 go_wp2_with fail
 refine (znf _).mono ?_
 rintro e w1 ⟨rfl,rfl⟩
 go_wp2_with fail
 rw [rounds_succ]
 go_wp2_with fail
 refine (zro _).mono ?_
 rintro e w1 ⟨rfl,rfl⟩
 go_wp2_with fail
 rw [rounds_succ]
 go_wp2_with fail
 refine (zyp _).mono ?_
 rintro e w1 ⟨rfl,rfl⟩
 go_wp2_with fail
 go_ret2
 exact ⟨rfl,rfl⟩
theorem zGs (n k:Int) (w:World) (h:zc8 n k=true) (hlo:16777216<2*(n-k)):
  Calls Tryz.prog 99 #[.int .i64 n,.int .i64 k] w fun e w'=>e= .returned (.tuple #[.int .i64 4,.nilIface])∧w'=w:=by
 obtain ⟨h0,h1,h2,h3⟩:=zb3 h
 have hm:mayB n=true:=decide_eq_true ⟨h0,h1⟩
 go_enter Tryz.func99,Tryz.ntmps99
 go_wp2_with fail
 refine (isnum n _).mono ?_
 rintro e w1 ⟨rfl,rfl⟩
 rw [hm]
 go_wp2_with fail
 refine wp_loop_rounds 5 ?_
 rw [rounds_succ]
 go_wp2_with fail
 refine (znf _).mono ?_
 rintro e w1 ⟨rfl,rfl⟩
 go_wp2_with fail
 rw [rounds_succ]
 go_wp2_with fail
 refine (zro _).mono ?_
 rintro e w1 ⟨rfl,rfl⟩
 go_wp2_with fail
 rw [rounds_succ]
 go_wp2_with fail
 refine (zyp _).mono ?_
 rintro e w1 ⟨rfl,rfl⟩
 go_wp2_with fail
 rw [rounds_succ]
 go_wp2_with fail
 refine (zCw _).mono ?_
 rintro e w1 ⟨rfl,rfl⟩
 go_wp2_with fail
 go_ret2
 exact ⟨rfl,rfl⟩
theorem zz4 (n k:Int) (w:World) (h:zc8 n k=true):
  Calls Tryz.prog 99 #[.int .i64 n,.int .i64 k] w fun e w'=>e= .returned (.tuple #[.int .i64 (need n k),.nilIface])∧w'=w:=by
 by_cases a:2*(n-k)≤256
 ·have e:need n k=1:=by simp [need,a]
  rw [e];exact zHd n k w h a
 by_cases b:2*(n-k)≤65536
 ·have e:need n k=2:=by simp [need,a,b]
  rw [e];exact zHr n k w h (by omega) b
 by_cases c:2*(n-k)≤16777216
 ·have e:need n k=3:=by simp [need,a,b,c]
  rw [e];exact zGu n k w h (by omega) c
 ·have e:need n k=4:=by simp [need,a,b,c]
  rw [e];exact zGs n k w h (by omega)
theorem zb9 {n r:Int} (h0:0≤n) (hr:0<r):n%r≤n:=by
 by_cases h:n<r
 ·rw [Int.emod_eq_of_lt h0 h];exact Int.le_refl _
 ·have:=Int.emod_lt_of_pos n hr
  omega
def near (cut r next:Int):Int:=
 if next-next%r+cut<next∧mayB (next-next%r+cut+r)=true∧next-next%r+cut+r-next≤next-(next-next%r+cut) then next-next%r+cut+r
 else if next<next-next%r+cut∧mayB (next-next%r+cut-r)=true∧next-(next-next%r+cut-r)<next-next%r+cut-next then next-next%r+cut-r
 else next-next%r+cut
def zch (cut b next:Int):Bool:=mayB next && lenB b && mayB cut && decide (cut<rnd b)
theorem zxg (cut b next:Int) (w:World) (hn:mayB next=false):
  Calls Tryz.prog 103 #[.int .i64 cut,.int .i64 b,.int .i64 next] w fun e w'=>e= .returned (.tuple #[.int .i64 0,.iface 78 (.int .i64 1)])∧w'=w:=by
 go_enter Tryz.func103,Tryz.ntmps103
 go_wp2_with fail
 refine (isnum next _).mono ?_
 rintro e w1 ⟨rfl,rfl⟩
 rw [hn]
 go_wp2
 go_ret2
 exact ⟨rfl,rfl⟩
theorem zwy (cut b next:Int) (w:World) (hn:mayB next=true) (hb:lenB b=false):
  Calls Tryz.prog 103 #[.int .i64 cut,.int .i64 b,.int .i64 next] w fun e w'=>e= .returned (.tuple #[.int .i64 0,.iface 78 (.int .i64 1)])∧w'=w:=by
 go_enter Tryz.func103,Tryz.ntmps103
 go_wp2_with fail
 refine (isnum next _).mono ?_
 rintro e w1 ⟨rfl,rfl⟩
 rw [hn]
 go_wp2_with fail
 refine (zjx b _).mono ?_
 rintro e w1 ⟨rfl,rfl⟩
 rw [hb]
 go_wp2
 go_ret2
 exact ⟨rfl,rfl⟩
theorem zvj (cut b next:Int) (w:World) (hn:mayB next=true) (hb:lenB b=true) (hc:mayB cut=false):
  Calls Tryz.prog 103 #[.int .i64 cut,.int .i64 b,.int .i64 next] w fun e w'=>e= .returned (.tuple #[.int .i64 0,.iface 78 (.int .i64 1)])∧w'=w:=by
 go_enter Tryz.func103,Tryz.ntmps103
 go_wp2_with fail
 refine (isnum next _).mono ?_
 rintro e w1 ⟨rfl,rfl⟩
 rw [hn]
 go_wp2_with fail
 refine (zjx b _).mono ?_
 rintro e w1 ⟨rfl,rfl⟩
 rw [hb]
 go_wp2_with fail
 refine (isnum cut _).mono ?_
 rintro e w1 ⟨rfl,rfl⟩
 rw [hc]
 go_wp2
 go_ret2
 exact ⟨rfl,rfl⟩
theorem zx1 (cut b next:Int) (w:World) (hn:mayB next=true) (hb:lenB b=true) (hc:mayB cut=true) (hl:rnd b≤cut):
  Calls Tryz.prog 103 #[.int .i64 cut,.int .i64 b,.int .i64 next] w fun e w'=>e= .returned (.tuple #[.int .i64 0,.iface 78 (.int .i64 1)])∧w'=w:=by
 go_enter Tryz.func103,Tryz.ntmps103
 go_wp2_with fail
 refine (isnum next _).mono ?_
 rintro e w1 ⟨rfl,rfl⟩
 rw [hn]
 go_wp2_with fail
 refine (zjx b _).mono ?_
 rintro e w1 ⟨rfl,rfl⟩
 rw [hb]
 go_wp2_with fail
 refine (isnum cut _).mono ?_
 rintro e w1 ⟨rfl,rfl⟩
 rw [hc]
 go_wp2_with fail
 refine (cuts b _ hb).mono ?_
 rintro e w1 ⟨rfl,rfl⟩
 go_wp2
 go_ret2
 exact ⟨rfl,rfl⟩
theorem zq5 (cut b next:Int) (w:World) (h:zch cut b next=false):
  Calls Tryz.prog 103 #[.int .i64 cut,.int .i64 b,.int .i64 next] w fun e w'=>e= .returned (.tuple #[.int .i64 0,.iface 78 (.int .i64 1)])∧w'=w:=by
 cases hn:mayB next with
 | false=>exact zxg cut b next w hn
 | true=>
  cases hb:lenB b with
  | false=>exact zwy cut b next w hn hb
  | true=>
   cases hc:mayB cut with
   | false=>exact zvj cut b next w hn hb hc
   | true=>
    refine zx1 cut b next w hn hb hc ?_
    by_cases hl:cut<rnd b
    ·simp [zch,hn,hb,hc,hl] at h
    ·omega
theorem zGk (cut b next:Int) (w:World) (hn:mayB next=true) (hb:lenB b=true) (hc:mayB cut=true) (hl:cut<rnd b)
  (t1:next-next%rnd b+cut<next) (t2:mayB (next-next%rnd b+cut+rnd b)=true) (t3:next-next%rnd b+cut+rnd b-next≤next-(next-next%rnd b+cut)):
  Calls Tryz.prog 103 #[.int .i64 cut,.int .i64 b,.int .i64 next] w fun e w'=>e= .returned (.tuple #[.int .i64 (next-next%rnd b+cut+rnd b),.nilIface])∧w'=w:=by
 obtain ⟨n0,n1⟩:=zad hn
 obtain ⟨c0,c1⟩:=zad hc
 have hm0:0≤next%rnd b:=Int.emod_nonneg next (by have:=zar b;omega)
 have hm1:next%rnd b<rnd b:=Int.emod_lt_of_pos next (by have:=zar b;omega)
 have hm2:next%rnd b≤next:=zb9 n0 (by have:=zar b;omega)
 go_enter Tryz.func103,Tryz.ntmps103
 go_wp2_with fail
 refine (isnum next _).mono ?_
 rintro e w1 ⟨rfl,rfl⟩
 rw [hn]
 go_wp2_with fail
 refine (zjx b _).mono ?_
 rintro e w1 ⟨rfl,rfl⟩
 rw [hb]
 go_wp2_with fail
 refine (isnum cut _).mono ?_
 rintro e w1 ⟨rfl,rfl⟩
 rw [hc]
 go_wp2_with fail
 refine (cuts b _ hb).mono ?_
 rintro e w1 ⟨rfl,rfl⟩
 go_wp2_with fail
 refine (cuts b _ hb).mono ?_
 rintro e w1 ⟨rfl,rfl⟩
 obtain ⟨hr0,hr1⟩:=zar b
 generalize hrr:rnd b=r at hr0 hr1 hm0 hm1 hm2 hl t1 t2 t3 ⊢
 go_wp2_with fail
 refine (isnum (next-next%r+cut+r) _).mono ?_
 rintro e w1 ⟨rfl,rfl⟩
 rw [t2]
 go_wp2
 go_ret2
 rw [←hrr];exact ⟨rfl,rfl⟩
theorem zEg (cut b next:Int) (w:World) (hn:mayB next=true) (hb:lenB b=true) (hc:mayB cut=true) (hl:cut<rnd b)
  (t1:next-next%rnd b+cut<next) (t2:mayB (next-next%rnd b+cut+rnd b)=true) (t3:next-(next-next%rnd b+cut)<next-next%rnd b+cut+rnd b-next):
  Calls Tryz.prog 103 #[.int .i64 cut,.int .i64 b,.int .i64 next] w fun e w'=>e= .returned (.tuple #[.int .i64 (next-next%rnd b+cut),.nilIface])∧w'=w:=by
 obtain ⟨n0,n1⟩:=zad hn
 obtain ⟨c0,c1⟩:=zad hc
 have hm0:0≤next%rnd b:=Int.emod_nonneg next (by have:=zar b;omega)
 have hm1:next%rnd b<rnd b:=Int.emod_lt_of_pos next (by have:=zar b;omega)
 have hm2:next%rnd b≤next:=zb9 n0 (by have:=zar b;omega)
 go_enter Tryz.func103,Tryz.ntmps103
 go_wp2_with fail
 refine (isnum next _).mono ?_
 rintro e w1 ⟨rfl,rfl⟩
 rw [hn]
 go_wp2_with fail
 refine (zjx b _).mono ?_
 rintro e w1 ⟨rfl,rfl⟩
 rw [hb]
 go_wp2_with fail
 refine (isnum cut _).mono ?_
 rintro e w1 ⟨rfl,rfl⟩
 rw [hc]
 go_wp2_with fail
 refine (cuts b _ hb).mono ?_
 rintro e w1 ⟨rfl,rfl⟩
 go_wp2_with fail
 refine (cuts b _ hb).mono ?_
 rintro e w1 ⟨rfl,rfl⟩
 obtain ⟨hr0,hr1⟩:=zar b
 generalize hrr:rnd b=r at hr0 hr1 hm0 hm1 hm2 hl t1 t2 t3 ⊢
 go_wp2_with fail
 refine (isnum (next-next%r+cut+r) _).mono ?_
 rintro e w1 ⟨rfl,rfl⟩
 rw [t2]
 go_wp2
 go_ret2
 rw [←hrr];exact ⟨rfl,rfl⟩
theorem zD9 (cut b next:Int) (w:World) (hn:mayB next=true) (hb:lenB b=true) (hc:mayB cut=true) (hl:cut<rnd b)
  (t1:next-next%rnd b+cut<next) (t2:mayB (next-next%rnd b+cut+rnd b)=false):
  Calls Tryz.prog 103 #[.int .i64 cut,.int .i64 b,.int .i64 next] w fun e w'=>e= .returned (.tuple #[.int .i64 (next-next%rnd b+cut),.nilIface])∧w'=w:=by
 obtain ⟨n0,n1⟩:=zad hn
 obtain ⟨c0,c1⟩:=zad hc
 have hm0:0≤next%rnd b:=Int.emod_nonneg next (by have:=zar b;omega)
 have hm1:next%rnd b<rnd b:=Int.emod_lt_of_pos next (by have:=zar b;omega)
 have hm2:next%rnd b≤next:=zb9 n0 (by have:=zar b;omega)
 go_enter Tryz.func103,Tryz.ntmps103
 go_wp2_with fail
 refine (isnum next _).mono ?_
 rintro e w1 ⟨rfl,rfl⟩
 rw [hn]
 go_wp2_with fail
 refine (zjx b _).mono ?_
 rintro e w1 ⟨rfl,rfl⟩
 rw [hb]
 go_wp2_with fail
 refine (isnum cut _).mono ?_
 rintro e w1 ⟨rfl,rfl⟩
 rw [hc]
 go_wp2_with fail
 refine (cuts b _ hb).mono ?_
 rintro e w1 ⟨rfl,rfl⟩
 go_wp2_with fail
 refine (cuts b _ hb).mono ?_
 rintro e w1 ⟨rfl,rfl⟩
 obtain ⟨hr0,hr1⟩:=zar b
 generalize hrr:rnd b=r at hr0 hr1 hm0 hm1 hm2 hl t1 t2 ⊢
 go_wp2_with fail
 refine (isnum (next-next%r+cut+r) _).mono ?_
 rintro e w1 ⟨rfl,rfl⟩
 rw [t2]
 go_wp2
 go_ret2
 rw [←hrr];exact ⟨rfl,rfl⟩
theorem zGb (cut b next:Int) (w:World) (hn:mayB next=true) (hb:lenB b=true) (hc:mayB cut=true) (hl:cut<rnd b)
  (t1:next-next%rnd b+cut=next):
  Calls Tryz.prog 103 #[.int .i64 cut,.int .i64 b,.int .i64 next] w fun e w'=>e= .returned (.tuple #[.int .i64 (next),.nilIface])∧w'=w:=by
 obtain ⟨n0,n1⟩:=zad hn
 obtain ⟨c0,c1⟩:=zad hc
 have hm0:0≤next%rnd b:=Int.emod_nonneg next (by have:=zar b;omega)
 have hm1:next%rnd b<rnd b:=Int.emod_lt_of_pos next (by have:=zar b;omega)
 have hm2:next%rnd b≤next:=zb9 n0 (by have:=zar b;omega)
 go_enter Tryz.func103,Tryz.ntmps103
 go_wp2_with fail
 refine (isnum next _).mono ?_
 rintro e w1 ⟨rfl,rfl⟩
 rw [hn]
 go_wp2_with fail
 refine (zjx b _).mono ?_
 rintro e w1 ⟨rfl,rfl⟩
 rw [hb]
 go_wp2_with fail
 refine (isnum cut _).mono ?_
 rintro e w1 ⟨rfl,rfl⟩
 rw [hc]
 go_wp2_with fail
 refine (cuts b _ hb).mono ?_
 rintro e w1 ⟨rfl,rfl⟩
 go_wp2_with fail
 refine (cuts b _ hb).mono ?_
 rintro e w1 ⟨rfl,rfl⟩
 obtain ⟨hr0,hr1⟩:=zar b
 generalize hrr:rnd b=r at hr0 hr1 hm0 hm1 hm2 hl t1 ⊢
 go_wp2
 go_ret2
 rw [←hrr];exact ⟨rfl,rfl⟩
theorem zDf (cut b next:Int) (w:World) (hn:mayB next=true) (hb:lenB b=true) (hc:mayB cut=true) (hl:cut<rnd b)
  (t1:next<next-next%rnd b+cut) (t2:mayB (next-next%rnd b+cut-rnd b)=true) (t3:next-(next-next%rnd b+cut-rnd b)<next-next%rnd b+cut-next):
  Calls Tryz.prog 103 #[.int .i64 cut,.int .i64 b,.int .i64 next] w fun e w'=>e= .returned (.tuple #[.int .i64 (next-next%rnd b+cut-rnd b),.nilIface])∧w'=w:=by
 obtain ⟨n0,n1⟩:=zad hn
 obtain ⟨c0,c1⟩:=zad hc
 have hm0:0≤next%rnd b:=Int.emod_nonneg next (by have:=zar b;omega)
 have hm1:next%rnd b<rnd b:=Int.emod_lt_of_pos next (by have:=zar b;omega)
 have hm2:next%rnd b≤next:=zb9 n0 (by have:=zar b;omega)
 go_enter Tryz.func103,Tryz.ntmps103
 go_wp2_with fail
 refine (isnum next _).mono ?_
 rintro e w1 ⟨rfl,rfl⟩
 rw [hn]
 go_wp2_with fail
 refine (zjx b _).mono ?_
 rintro e w1 ⟨rfl,rfl⟩
 rw [hb]
 go_wp2_with fail
 refine (isnum cut _).mono ?_
 rintro e w1 ⟨rfl,rfl⟩
 rw [hc]
 go_wp2_with fail
 refine (cuts b _ hb).mono ?_
 rintro e w1 ⟨rfl,rfl⟩
 go_wp2_with fail
 refine (cuts b _ hb).mono ?_
 rintro e w1 ⟨rfl,rfl⟩
 obtain ⟨hr0,hr1⟩:=zar b
 generalize hrr:rnd b=r at hr0 hr1 hm0 hm1 hm2 hl t1 t2 t3 ⊢
 go_wp2_with fail
 refine (isnum (next-next%r+cut-r) _).mono ?_
 rintro e w1 ⟨rfl,rfl⟩
 rw [t2]
 go_wp2
 go_ret2
 rw [←hrr];exact ⟨rfl,rfl⟩
theorem zEt (cut b next:Int) (w:World) (hn:mayB next=true) (hb:lenB b=true) (hc:mayB cut=true) (hl:cut<rnd b)
  (t1:next<next-next%rnd b+cut) (t2:mayB (next-next%rnd b+cut-rnd b)=true) (t3:next-next%rnd b+cut-next≤next-(next-next%rnd b+cut-rnd b)):
  Calls Tryz.prog 103 #[.int .i64 cut,.int .i64 b,.int .i64 next] w fun e w'=>e= .returned (.tuple #[.int .i64 (next-next%rnd b+cut),.nilIface])∧w'=w:=by
 obtain ⟨n0,n1⟩:=zad hn
 obtain ⟨c0,c1⟩:=zad hc
 have hm0:0≤next%rnd b:=Int.emod_nonneg next (by have:=zar b;omega)
 have hm1:next%rnd b<rnd b:=Int.emod_lt_of_pos next (by have:=zar b;omega)
 have hm2:next%rnd b≤next:=zb9 n0 (by have:=zar b;omega)
 go_enter Tryz.func103,Tryz.ntmps103
 go_wp2_with fail
 refine (isnum next _).mono ?_
 rintro e w1 ⟨rfl,rfl⟩
 rw [hn]
 go_wp2_with fail
 refine (zjx b _).mono ?_
 rintro e w1 ⟨rfl,rfl⟩
 rw [hb]
 go_wp2_with fail
 refine (isnum cut _).mono ?_
 rintro e w1 ⟨rfl,rfl⟩
 rw [hc]
 go_wp2_with fail
 refine (cuts b _ hb).mono ?_
 rintro e w1 ⟨rfl,rfl⟩
 go_wp2_with fail
 refine (cuts b _ hb).mono ?_
 rintro e w1 ⟨rfl,rfl⟩
 obtain ⟨hr0,hr1⟩:=zar b
 generalize hrr:rnd b=r at hr0 hr1 hm0 hm1 hm2 hl t1 t2 t3 ⊢
 go_wp2_with fail
 refine (isnum (next-next%r+cut-r) _).mono ?_
 rintro e w1 ⟨rfl,rfl⟩
 rw [t2]
 go_wp2
 go_ret2
 rw [←hrr];exact ⟨rfl,rfl⟩
theorem zFo (cut b next:Int) (w:World) (hn:mayB next=true) (hb:lenB b=true) (hc:mayB cut=true) (hl:cut<rnd b)
  (t1:next<next-next%rnd b+cut) (t2:mayB (next-next%rnd b+cut-rnd b)=false):
  Calls Tryz.prog 103 #[.int .i64 cut,.int .i64 b,.int .i64 next] w fun e w'=>e= .returned (.tuple #[.int .i64 (next-next%rnd b+cut),.nilIface])∧w'=w:=by
 obtain ⟨n0,n1⟩:=zad hn
 obtain ⟨c0,c1⟩:=zad hc
 have hm0:0≤next%rnd b:=Int.emod_nonneg next (by have:=zar b;omega)
 have hm1:next%rnd b<rnd b:=Int.emod_lt_of_pos next (by have:=zar b;omega)
 have hm2:next%rnd b≤next:=zb9 n0 (by have:=zar b;omega)
 go_enter Tryz.func103,Tryz.ntmps103
 go_wp2_with fail
 refine (isnum next _).mono ?_
 rintro e w1 ⟨rfl,rfl⟩
 rw [hn]
 go_wp2_with fail
 refine (zjx b _).mono ?_
 rintro e w1 ⟨rfl,rfl⟩
 rw [hb]
 go_wp2_with fail
 refine (isnum cut _).mono ?_
 rintro e w1 ⟨rfl,rfl⟩
 rw [hc]
 go_wp2_with fail
 refine (cuts b _ hb).mono ?_
 rintro e w1 ⟨rfl,rfl⟩
 go_wp2_with fail
 refine (cuts b _ hb).mono ?_
 rintro e w1 ⟨rfl,rfl⟩
 obtain ⟨hr0,hr1⟩:=zar b
 generalize hrr:rnd b=r at hr0 hr1 hm0 hm1 hm2 hl t1 t2 ⊢
 go_wp2_with fail
 refine (isnum (next-next%r+cut-r) _).mono ?_
 rintro e w1 ⟨rfl,rfl⟩
 rw [t2]
 go_wp2
 go_ret2
 rw [←hrr];exact ⟨rfl,rfl⟩
theorem zxj (cut b next:Int) (w:World) (h:zch cut b next=true):
  Calls Tryz.prog 103 #[.int .i64 cut,.int .i64 b,.int .i64 next] w fun e w'=>e= .returned (.tuple #[.int .i64 (near cut (rnd b) next),.nilIface])∧w'=w:=by
 obtain ⟨⟨⟨hn,hb⟩,hc⟩,hl⟩:((mayB next=true∧lenB b=true)∧mayB cut=true)∧cut<rnd b:=by simpa [zch] using h
 by_cases t1:next-next%rnd b+cut<next
 ·cases t2:mayB (next-next%rnd b+cut+rnd b) with
  | false=>
   have e:near cut (rnd b) next=next-next%rnd b+cut:=by unfold near;rw [if_neg (by rw [t2];simp),if_neg (by omega)]
   rw [e];exact zD9 cut b next w hn hb hc hl t1 t2
  | true=>
   by_cases t3:next-next%rnd b+cut+rnd b-next≤next-(next-next%rnd b+cut)
   ·have e:near cut (rnd b) next=next-next%rnd b+cut+rnd b:=by unfold near;rw [if_pos ⟨t1,t2,t3⟩]
    rw [e];exact zGk cut b next w hn hb hc hl t1 t2 t3
   ·have e:near cut (rnd b) next=next-next%rnd b+cut:=by unfold near;rw [if_neg (fun h=>t3 h.2.2),if_neg (by omega)]
    rw [e];exact zEg cut b next w hn hb hc hl t1 t2 (by omega)
 ·by_cases t0:next-next%rnd b+cut=next
  ·have e:near cut (rnd b) next=next:=by unfold near;rw [if_neg (by omega),if_neg (by omega)];exact t0
   rw [e];exact zGb cut b next w hn hb hc hl t0
  ·have t1':next<next-next%rnd b+cut:=by omega
   cases t2:mayB (next-next%rnd b+cut-rnd b) with
   | false=>
    have e:near cut (rnd b) next=next-next%rnd b+cut:=by unfold near;rw [if_neg (by omega),if_neg (by rw [t2];simp)]
    rw [e];exact zFo cut b next w hn hb hc hl t1' t2
   | true=>
    by_cases t3:next-(next-next%rnd b+cut-rnd b)<next-next%rnd b+cut-next
    ·have e:near cut (rnd b) next=next-next%rnd b+cut-rnd b:=by unfold near;rw [if_neg (by omega),if_pos ⟨t1',t2,t3⟩]
     rw [e];exact zDf cut b next w hn hb hc hl t1' t2 t3
    ·have e:near cut (rnd b) next=next-next%rnd b+cut:=by unfold near;rw [if_neg (by omega),if_neg (fun h=>t3 h.2.2)]
     rw [e];exact zEt cut b next w hn hb hc hl t1' t2 (by omega)
def far (x:Int):Int:=if x<0 then -x else x
theorem zas (n:Int):mayB n=true↔0≤n∧n≤1073741823:=by simp [mayB]
theorem zfp (cut b next:Int):zch cut b next=true↔((mayB next=true∧lenB b=true)∧mayB cut=true)∧cut<rnd b:=by simp [zch]
theorem zit {b:Int} (h:lenB b=true):rnd b=256∨rnd b=65536∨rnd b=16777216∨rnd b=4294967296:=by
 rcases zbz h with rfl | rfl | rfl | rfl<;>simp [rnd]
theorem zEe:rnd 1=256:=by simp [rnd]
theorem zFi:rnd 2=65536:=by simp [rnd]
theorem zD7:rnd 3=16777216:=by simp [rnd]
theorem zFr:rnd 4=4294967296:=by simp [rnd]
theorem zo8 (cut b next:Int) (h:zch cut b next=true):
  (0≤near cut (rnd b) next∧near cut (rnd b) next≤1073741823)∧near cut (rnd b) next%rnd b=cut∧
  (rnd b≤near cut (rnd b) next→far (near cut (rnd b) next-next)≤far (near cut (rnd b) next-rnd b-next))∧
  (near cut (rnd b) next+rnd b≤1073741823→far (near cut (rnd b) next-next)<far (near cut (rnd b) next+rnd b-next)):=by
 obtain ⟨⟨⟨hn,hb⟩,hc⟩,hl⟩:=(zfp _ _ _).1 h
 obtain ⟨n0,n1⟩:=zad hn
 obtain ⟨c0,c1⟩:=zad hc
 rcases zit hb with e | e | e | e
 all_goals
  rw [e] at hl ⊢
  have hx:∃x,x=near cut (rnd b) next:=⟨_,rfl⟩
  rw [e] at hx
  obtain ⟨x,hx⟩:=hx
  rw [←hx]
  unfold near at hx
  simp only [zas] at hx
  unfold far
  split at hx
  ·refine ⟨?_,?_,?_,?_⟩<;>(try intro hh)<;>(repeat' split)<;>omega
  ·split at hx
   ·refine ⟨?_,?_,?_,?_⟩<;>(try intro hh)<;>(repeat' split)<;>omega
   ·refine ⟨?_,?_,?_,?_⟩<;>(try intro hh)<;>(repeat' split)<;>omega
theorem zh5 (w:World):
  Calls Tryz.prog 94 #[.int .i64 1] w fun e w'=>e= .returned (.int .i64 256)∧w'=w:=by
 go_enter Tryz.func94,Tryz.ntmps94
 go_wp2
 refine wp_loop_rounds 3 ?_
 rw [rounds_succ];go_wp2
 rw [rounds_succ];go_wp2
 go_ret
 exact ⟨rfl,rfl⟩
theorem zja (w:World):
  Calls Tryz.prog 94 #[.int .i64 2] w fun e w'=>e= .returned (.int .i64 65536)∧w'=w:=by
 go_enter Tryz.func94,Tryz.ntmps94
 go_wp2
 refine wp_loop_rounds 4 ?_
 rw [rounds_succ];go_wp2
 rw [rounds_succ];go_wp2
 rw [rounds_succ];go_wp2
 go_ret
 exact ⟨rfl,rfl⟩
theorem zmz (w:World):
  Calls Tryz.prog 94 #[.int .i64 3] w fun e w'=>e= .returned (.int .i64 16777216)∧w'=w:=by
 go_enter Tryz.func94,Tryz.ntmps94
 go_wp2
 refine wp_loop_rounds 5 ?_
 rw [rounds_succ];go_wp2
 rw [rounds_succ];go_wp2
 rw [rounds_succ];go_wp2
 rw [rounds_succ];go_wp2
 go_ret
 exact ⟨rfl,rfl⟩
theorem zwc (w:World):
  Calls Tryz.prog 94 #[.int .i64 4] w fun e w'=>e= .returned (.int .i64 4294967296)∧w'=w:=by
 go_enter Tryz.func94,Tryz.ntmps94
 go_wp2
 refine wp_loop_rounds 6 ?_
 rw [rounds_succ];go_wp2
 rw [rounds_succ];go_wp2
 rw [rounds_succ];go_wp2
 rw [rounds_succ];go_wp2
 rw [rounds_succ];go_wp2
 go_ret
 exact ⟨rfl,rfl⟩
theorem round (b:Int) (w:World) (h:lenB b=true):
  Calls Tryz.prog 94 #[.int .i64 b] w fun e w'=>e= .returned (.int .i64 (rnd b))∧w'=w:=by
 rcases zbz h with rfl | rfl | rfl | rfl
 ·exact zh5 w
 ·exact zja w
 ·exact zmz w
 ·exact zwc w
theorem zAm (n:Int) (w:World) (h0:0≤n) (h1:n≤1073741823):
  Calls Tryz.prog 62 #[.int .i64 n] w fun e w'=>e= .returned (.bool true)∧w'=w:=by
 go_enter Tryz.func62,Tryz.ntmps62
 go_wp2
 go_ret
 exact ⟨rfl,rfl⟩
theorem zDv (n:Int) (w:World) (h0:n<0):
  Calls Tryz.prog 62 #[.int .i64 n] w fun e w'=>e= .returned (.bool false)∧w'=w:=by
 go_enter Tryz.func62,Tryz.ntmps62
 go_wp2
 go_ret
 exact ⟨rfl,rfl⟩
theorem zEh (n:Int) (w:World) (h0:1073741823<n):
  Calls Tryz.prog 62 #[.int .i64 n] w fun e w'=>e= .returned (.bool false)∧w'=w:=by
 go_enter Tryz.func62,Tryz.ntmps62
 go_wp2
 go_ret
 exact ⟨by simp<;>omega,rfl⟩
theorem rmay (n:Int) (w:World):
    Calls Tryz.prog 62 #[.int .i64 n] w fun e w'=>e= .returned (.bool (mayB n))∧w'=w:=by
  cases h:mayB n with
  | true=>exact zAm n w (zad h).1 (zad h).2
  | false=>
   rcases zhp h with h | h
   · exact zDv n w h
   · exact zEh n w h
theorem zFh (n k:Int) (w:World) (h:zc8 n k=true) (hhi:2*(n-k)≤256):
  Calls Tryz.prog 93 #[.int .i64 n,.int .i64 k] w fun e w'=>e= .returned (.int .i64 1)∧w'=w:=by
 obtain ⟨h0,h1,h2,h3⟩:=zb3 h
 go_enter Tryz.func93,Tryz.ntmps93
 go_wp2_with fail
 refine wp_loop_rounds 2 ?_
 rw [rounds_succ]
 go_wp2_with fail
 refine (zh5 _).mono ?_
 rintro e w1 ⟨rfl,rfl⟩
 go_wp2_with fail
 go_ret
 exact ⟨rfl,rfl⟩
theorem zDx (n k:Int) (w:World) (h:zc8 n k=true) (hlo:256<2*(n-k)) (hhi:2*(n-k)≤65536):
  Calls Tryz.prog 93 #[.int .i64 n,.int .i64 k] w fun e w'=>e= .returned (.int .i64 2)∧w'=w:=by
 obtain ⟨h0,h1,h2,h3⟩:=zb3 h
 go_enter Tryz.func93,Tryz.ntmps93
 go_wp2_with fail
 refine wp_loop_rounds 3 ?_
 rw [rounds_succ]
 go_wp2_with fail
 refine (zh5 _).mono ?_
 rintro e w1 ⟨rfl,rfl⟩
 go_wp2_with fail
 rw [rounds_succ]
 go_wp2_with fail
 refine (zja _).mono ?_
 rintro e w1 ⟨rfl,rfl⟩
 go_wp2_with fail
 go_ret
 exact ⟨rfl,rfl⟩
theorem zFa (n k:Int) (w:World) (h:zc8 n k=true) (hlo:65536<2*(n-k)) (hhi:2*(n-k)≤16777216):
  Calls Tryz.prog 93 #[.int .i64 n,.int .i64 k] w fun e w'=>e= .returned (.int .i64 3)∧w'=w:=by
 obtain ⟨h0,h1,h2,h3⟩:=zb3 h
 go_enter Tryz.func93,Tryz.ntmps93
 go_wp2_with fail
 refine wp_loop_rounds 4 ?_
 rw [rounds_succ]
 go_wp2_with fail
 refine (zh5 _).mono ?_
 rintro e w1 ⟨rfl,rfl⟩
 go_wp2_with fail
 rw [rounds_succ]
 go_wp2_with fail
 refine (zja _).mono ?_
 rintro e w1 ⟨rfl,rfl⟩
 go_wp2_with fail
 rw [rounds_succ]
 go_wp2_with fail
 refine (zmz _).mono ?_
 rintro e w1 ⟨rfl,rfl⟩
 go_wp2_with fail
 go_ret
 exact ⟨rfl,rfl⟩
theorem zDu (n k:Int) (w:World) (h:zc8 n k=true) (hlo:16777216<2*(n-k)):
  Calls Tryz.prog 93 #[.int .i64 n,.int .i64 k] w fun e w'=>e= .returned (.int .i64 4)∧w'=w:=by
 obtain ⟨h0,h1,h2,h3⟩:=zb3 h
 go_enter Tryz.func93,Tryz.ntmps93
 go_wp2_with fail
 refine wp_loop_rounds 5 ?_
 rw [rounds_succ]
 go_wp2_with fail
 refine (zh5 _).mono ?_
 rintro e w1 ⟨rfl,rfl⟩
 go_wp2_with fail
 rw [rounds_succ]
 go_wp2_with fail
 refine (zja _).mono ?_
 rintro e w1 ⟨rfl,rfl⟩
 go_wp2_with fail
 rw [rounds_succ]
 go_wp2_with fail
 refine (zmz _).mono ?_
 rintro e w1 ⟨rfl,rfl⟩
 go_wp2_with fail
 rw [rounds_succ]
 go_wp2_with fail
 refine (zwc _).mono ?_
 rintro e w1 ⟨rfl,rfl⟩
 go_wp2_with fail
 go_ret
 exact ⟨rfl,rfl⟩
theorem zIw (n k:Int) (w:World) (h:zc8 n k=true):
  Calls Tryz.prog 93 #[.int .i64 n,.int .i64 k] w fun e w'=>e= .returned (.int .i64 (need n k))∧w'=w:=by
 by_cases a:2*(n-k)≤256
 ·have e:need n k=1:=by simp [need,a]
  rw [e];exact zFh n k w h a
 by_cases b:2*(n-k)≤65536
 ·have e:need n k=2:=by simp [need,a,b]
  rw [e];exact zDx n k w h (by omega) b
 by_cases c:2*(n-k)≤16777216
 ·have e:need n k=3:=by simp [need,a,b,c]
  rw [e];exact zFa n k w h (by omega) c
 ·have e:need n k=4:=by simp [need,a,b,c]
  rw [e];exact zDu n k w h (by omega)
def low (cut r next:Int):Int:=if cut<next then cut+(next-cut)/r*r else cut
def zGa (cut r next:Int):Int:=
 if 1073741823<low cut r next+r∨next<low cut r next then low cut r next
 else if low cut r next+r-next≤next-low cut r next then low cut r next+r else low cut r next
theorem zBp (cut b next:Int) (h:zch cut b next=true):zGa cut (rnd b) next=near cut (rnd b) next:=by
 obtain ⟨⟨⟨hn,hb⟩,hc⟩,hl⟩:=(zfp _ _ _).1 h
 obtain ⟨n0,n1⟩:=zad hn
 obtain ⟨c0,c1⟩:=zad hc
 rcases zit hb with e | e | e | e
 all_goals
  rw [e] at hl ⊢
  obtain ⟨lw,hlw⟩:∃x,x=low cut (rnd b) next:=⟨_,rfl⟩
  rw [e] at hlw
  obtain ⟨x,hx⟩:∃x,x=near cut (rnd b) next:=⟨_,rfl⟩
  rw [e] at hx
  rw [←hx]
  unfold zGa
  rw [←hlw]
  unfold near at hx
  unfold low at hlw
  simp only [zas] at hx
  split at hlw<;>split at hx
  ·split
   ·omega
   ·split<;>omega
  ·split at hx
   ·split
    ·omega
    ·split<;>omega
   ·split
    ·omega
    ·split<;>omega
  ·split
   ·omega
   ·split<;>omega
  ·split at hx
   ·split
    ·omega
    ·split<;>omega
   ·split
    ·omega
    ·split<;>omega
theorem zs6 (cut b next:Int) (w:World) (hn:mayB next=false):
  Calls Tryz.prog 97 #[.int .i64 cut,.int .i64 b,.int .i64 next] w fun e w'=>e= .returned (.tuple #[.int .i64 0,.bool false])∧w'=w:=by
 go_enter Tryz.func97,Tryz.ntmps97
 go_wp2_with fail
 refine (rmay next _).mono ?_
 rintro e w1 ⟨rfl,rfl⟩
 rw [hn]
 go_wp2
 go_ret2
 exact ⟨rfl,rfl⟩
theorem ztx (cut b next:Int) (w:World) (hn:mayB next=true) (hb:b<1):
  Calls Tryz.prog 97 #[.int .i64 cut,.int .i64 b,.int .i64 next] w fun e w'=>e= .returned (.tuple #[.int .i64 0,.bool false])∧w'=w:=by
 go_enter Tryz.func97,Tryz.ntmps97
 go_wp2_with fail
 refine (rmay next _).mono ?_
 rintro e w1 ⟨rfl,rfl⟩
 rw [hn]
 go_wp2
 go_ret2
 exact ⟨rfl,rfl⟩
theorem zsr (cut b next:Int) (w:World) (hn:mayB next=true) (hb:4<b):
  Calls Tryz.prog 97 #[.int .i64 cut,.int .i64 b,.int .i64 next] w fun e w'=>e= .returned (.tuple #[.int .i64 0,.bool false])∧w'=w:=by
 go_enter Tryz.func97,Tryz.ntmps97
 go_wp2_with fail
 refine (rmay next _).mono ?_
 rintro e w1 ⟨rfl,rfl⟩
 rw [hn]
 go_wp2
 go_ret2
 exact ⟨rfl,rfl⟩
theorem zsf (cut b next:Int) (w:World) (hn:mayB next=true) (b0:1≤b) (b1:b≤4) (hc:cut<0):
  Calls Tryz.prog 97 #[.int .i64 cut,.int .i64 b,.int .i64 next] w fun e w'=>e= .returned (.tuple #[.int .i64 0,.bool false])∧w'=w:=by
 go_enter Tryz.func97,Tryz.ntmps97
 go_wp2_with fail
 refine (rmay next _).mono ?_
 rintro e w1 ⟨rfl,rfl⟩
 rw [hn]
 go_wp2
 go_ret2
 exact ⟨rfl,rfl⟩
theorem ztz (cut b next:Int) (w:World) (hn:mayB next=true) (hb:lenB b=true) (b0:1≤b) (b1:b≤4) (hc:0≤cut) (hl:rnd b≤cut):
  Calls Tryz.prog 97 #[.int .i64 cut,.int .i64 b,.int .i64 next] w fun e w'=>e= .returned (.tuple #[.int .i64 0,.bool false])∧w'=w:=by
 go_enter Tryz.func97,Tryz.ntmps97
 go_wp2_with fail
 refine (rmay next _).mono ?_
 rintro e w1 ⟨rfl,rfl⟩
 rw [hn]
 go_wp2_with fail
 refine (round b _ hb).mono ?_
 rintro e w1 ⟨rfl,rfl⟩
 go_wp2
 go_ret2
 exact ⟨rfl,rfl⟩
theorem ztn (cut b next:Int) (w:World) (hn:mayB next=true) (hb:lenB b=true) (b0:1≤b) (b1:b≤4) (hc:0≤cut) (hl:cut<rnd b) (hh:1073741823<cut):
  Calls Tryz.prog 97 #[.int .i64 cut,.int .i64 b,.int .i64 next] w fun e w'=>e= .returned (.tuple #[.int .i64 0,.bool false])∧w'=w:=by
 go_enter Tryz.func97,Tryz.ntmps97
 go_wp2_with fail
 refine (rmay next _).mono ?_
 rintro e w1 ⟨rfl,rfl⟩
 rw [hn]
 go_wp2_with fail
 refine (round b _ hb).mono ?_
 rintro e w1 ⟨rfl,rfl⟩
 go_wp2
 go_ret2
 exact ⟨rfl,rfl⟩
theorem zyc (cut b next:Int) (w:World) (h:zch cut b next=false):
  Calls Tryz.prog 97 #[.int .i64 cut,.int .i64 b,.int .i64 next] w fun e w'=>e= .returned (.tuple #[.int .i64 0,.bool false])∧w'=w:=by
 cases hn:mayB next with
 | false=>exact zs6 cut b next w hn
 | true=>
  cases hb:lenB b with
  | false=>
   rcases zya hb with hb | hb
   ·exact ztx cut b next w hn hb
   ·exact zsr cut b next w hn hb
  | true=>
   have hb':1≤b∧b≤4:=of_decide_eq_true hb
   by_cases hc:cut<0
   ·exact zsf cut b next w hn hb'.1 hb'.2 hc
   ·by_cases hl:cut<rnd b
    ·refine ztn cut b next w hn hb hb'.1 hb'.2 (by omega) hl ?_
     by_cases hh:cut≤1073741823
     ·have hm:mayB cut=true:=(zas _).2 ⟨by omega,hh⟩
      simp [zch,hn,hb,hm,hl] at h
     ·omega
    ·exact ztz cut b next w hn hb hb'.1 hb'.2 (by omega) (by omega)
theorem zww (cut b next:Int) (w:World) (hn:mayB next=true) (hb:lenB b=true) (b0:1≤b) (b1:b≤4) (hc:mayB cut=true) (hl:cut<rnd b)
  (t0:cut<next) (t1:1073741823<cut+(next-cut)/rnd b*rnd b+rnd b):
  Calls Tryz.prog 97 #[.int .i64 cut,.int .i64 b,.int .i64 next] w fun e w'=>e= .returned (.tuple #[.int .i64 (cut+(next-cut)/rnd b*rnd b),.bool true])∧w'=w:=by
 obtain ⟨n0,n1⟩:=zad hn
 obtain ⟨c0,c1⟩:=zad hc
 have hq0:0≤(next-cut)/rnd b:=Int.ediv_nonneg (by omega) (by have:=zar b;omega)
 have hq1:(next-cut)/rnd b*rnd b≤next-cut:=Int.ediv_mul_le _ (by have:=zar b;omega)
 have hq2:0≤(next-cut)/rnd b*rnd b:=Int.mul_nonneg hq0 (by have:=zar b;omega)
 have hq3:(next-cut)/rnd b≤next-cut:=Int.ediv_le_self _ (by omega)
 go_enter Tryz.func97,Tryz.ntmps97
 go_wp2_with fail
 refine (rmay next _).mono ?_
 rintro e w1 ⟨rfl,rfl⟩
 rw [hn]
 go_wp2_with fail
 refine (round b _ hb).mono ?_
 rintro e w1 ⟨rfl,rfl⟩
 obtain ⟨hr0,hr1⟩:=zar b
 generalize hrr:rnd b=r at hr0 hr1 hl t1 hq0 hq1 hq2 hq3 ⊢
 go_wp2
 go_ret2
 rw [←hrr];exact ⟨rfl,rfl⟩
theorem zxs (cut b next:Int) (w:World) (hn:mayB next=true) (hb:lenB b=true) (b0:1≤b) (b1:b≤4) (hc:mayB cut=true) (hl:cut<rnd b)
  (t0:cut<next) (t1:cut+(next-cut)/rnd b*rnd b+rnd b≤1073741823) (t2:next<cut+(next-cut)/rnd b*rnd b):
  Calls Tryz.prog 97 #[.int .i64 cut,.int .i64 b,.int .i64 next] w fun e w'=>e= .returned (.tuple #[.int .i64 (cut+(next-cut)/rnd b*rnd b),.bool true])∧w'=w:=by
 obtain ⟨n0,n1⟩:=zad hn
 obtain ⟨c0,c1⟩:=zad hc
 have hq0:0≤(next-cut)/rnd b:=Int.ediv_nonneg (by omega) (by have:=zar b;omega)
 have hq1:(next-cut)/rnd b*rnd b≤next-cut:=Int.ediv_mul_le _ (by have:=zar b;omega)
 have hq2:0≤(next-cut)/rnd b*rnd b:=Int.mul_nonneg hq0 (by have:=zar b;omega)
 have hq3:(next-cut)/rnd b≤next-cut:=Int.ediv_le_self _ (by omega)
 exfalso
 have hr:=zar b
 omega
theorem zvc (cut b next:Int) (w:World) (hn:mayB next=true) (hb:lenB b=true) (b0:1≤b) (b1:b≤4) (hc:mayB cut=true) (hl:cut<rnd b)
  (t0:cut<next) (t1:cut+(next-cut)/rnd b*rnd b+rnd b≤1073741823) (t2:cut+(next-cut)/rnd b*rnd b≤next) (t3:cut+(next-cut)/rnd b*rnd b+rnd b-next≤next-(cut+(next-cut)/rnd b*rnd b)):
  Calls Tryz.prog 97 #[.int .i64 cut,.int .i64 b,.int .i64 next] w fun e w'=>e= .returned (.tuple #[.int .i64 (cut+(next-cut)/rnd b*rnd b+rnd b),.bool true])∧w'=w:=by
 obtain ⟨n0,n1⟩:=zad hn
 obtain ⟨c0,c1⟩:=zad hc
 have hq0:0≤(next-cut)/rnd b:=Int.ediv_nonneg (by omega) (by have:=zar b;omega)
 have hq1:(next-cut)/rnd b*rnd b≤next-cut:=Int.ediv_mul_le _ (by have:=zar b;omega)
 have hq2:0≤(next-cut)/rnd b*rnd b:=Int.mul_nonneg hq0 (by have:=zar b;omega)
 have hq3:(next-cut)/rnd b≤next-cut:=Int.ediv_le_self _ (by omega)
 go_enter Tryz.func97,Tryz.ntmps97
 go_wp2_with fail
 refine (rmay next _).mono ?_
 rintro e w1 ⟨rfl,rfl⟩
 rw [hn]
 go_wp2_with fail
 refine (round b _ hb).mono ?_
 rintro e w1 ⟨rfl,rfl⟩
 obtain ⟨hr0,hr1⟩:=zar b
 generalize hrr:rnd b=r at hr0 hr1 hl t1 t2 t3 hq0 hq1 hq2 hq3 ⊢
 go_wp2
 go_ret2
 rw [←hrr];exact ⟨rfl,rfl⟩
theorem zve (cut b next:Int) (w:World) (hn:mayB next=true) (hb:lenB b=true) (b0:1≤b) (b1:b≤4) (hc:mayB cut=true) (hl:cut<rnd b)
  (t0:cut<next) (t1:cut+(next-cut)/rnd b*rnd b+rnd b≤1073741823) (t2:cut+(next-cut)/rnd b*rnd b≤next) (t3:next-(cut+(next-cut)/rnd b*rnd b)<cut+(next-cut)/rnd b*rnd b+rnd b-next):
  Calls Tryz.prog 97 #[.int .i64 cut,.int .i64 b,.int .i64 next] w fun e w'=>e= .returned (.tuple #[.int .i64 (cut+(next-cut)/rnd b*rnd b),.bool true])∧w'=w:=by
 obtain ⟨n0,n1⟩:=zad hn
 obtain ⟨c0,c1⟩:=zad hc
 have hq0:0≤(next-cut)/rnd b:=Int.ediv_nonneg (by omega) (by have:=zar b;omega)
 have hq1:(next-cut)/rnd b*rnd b≤next-cut:=Int.ediv_mul_le _ (by have:=zar b;omega)
 have hq2:0≤(next-cut)/rnd b*rnd b:=Int.mul_nonneg hq0 (by have:=zar b;omega)
 have hq3:(next-cut)/rnd b≤next-cut:=Int.ediv_le_self _ (by omega)
 go_enter Tryz.func97,Tryz.ntmps97
 go_wp2_with fail
 refine (rmay next _).mono ?_
 rintro e w1 ⟨rfl,rfl⟩
 rw [hn]
 go_wp2_with fail
 refine (round b _ hb).mono ?_
 rintro e w1 ⟨rfl,rfl⟩
 obtain ⟨hr0,hr1⟩:=zar b
 generalize hrr:rnd b=r at hr0 hr1 hl t1 t2 t3 hq0 hq1 hq2 hq3 ⊢
 go_wp2
 go_ret2
 rw [←hrr];exact ⟨rfl,rfl⟩
theorem zu6 (cut b next:Int) (w:World) (hn:mayB next=true) (hb:lenB b=true) (b0:1≤b) (b1:b≤4) (hc:mayB cut=true) (hl:cut<rnd b)
  (t0:next≤cut) (t1:1073741823<cut+rnd b):
  Calls Tryz.prog 97 #[.int .i64 cut,.int .i64 b,.int .i64 next] w fun e w'=>e= .returned (.tuple #[.int .i64 (cut),.bool true])∧w'=w:=by
 obtain ⟨n0,n1⟩:=zad hn
 obtain ⟨c0,c1⟩:=zad hc
 go_enter Tryz.func97,Tryz.ntmps97
 go_wp2_with fail
 refine (rmay next _).mono ?_
 rintro e w1 ⟨rfl,rfl⟩
 rw [hn]
 go_wp2_with fail
 refine (round b _ hb).mono ?_
 rintro e w1 ⟨rfl,rfl⟩
 obtain ⟨hr0,hr1⟩:=zar b
 generalize hrr:rnd b=r at hr0 hr1 hl t1 ⊢
 go_wp2
 go_ret2
 rw [←hrr];exact ⟨rfl,rfl⟩
theorem zx8 (cut b next:Int) (w:World) (hn:mayB next=true) (hb:lenB b=true) (b0:1≤b) (b1:b≤4) (hc:mayB cut=true) (hl:cut<rnd b)
  (t0:next≤cut) (t1:cut+rnd b≤1073741823) (t2:next<cut):
  Calls Tryz.prog 97 #[.int .i64 cut,.int .i64 b,.int .i64 next] w fun e w'=>e= .returned (.tuple #[.int .i64 (cut),.bool true])∧w'=w:=by
 obtain ⟨n0,n1⟩:=zad hn
 obtain ⟨c0,c1⟩:=zad hc
 go_enter Tryz.func97,Tryz.ntmps97
 go_wp2_with fail
 refine (rmay next _).mono ?_
 rintro e w1 ⟨rfl,rfl⟩
 rw [hn]
 go_wp2_with fail
 refine (round b _ hb).mono ?_
 rintro e w1 ⟨rfl,rfl⟩
 obtain ⟨hr0,hr1⟩:=zar b
 generalize hrr:rnd b=r at hr0 hr1 hl t1 t2 ⊢
 go_wp2
 go_ret2
 rw [←hrr];exact ⟨rfl,rfl⟩
theorem zyx (cut b next:Int) (w:World) (hn:mayB next=true) (hb:lenB b=true) (b0:1≤b) (b1:b≤4) (hc:mayB cut=true) (hl:cut<rnd b)
  (t0:next≤cut) (t1:cut+rnd b≤1073741823) (t2:cut≤next) (t3:cut+rnd b-next≤next-(cut)):
  Calls Tryz.prog 97 #[.int .i64 cut,.int .i64 b,.int .i64 next] w fun e w'=>e= .returned (.tuple #[.int .i64 (cut+rnd b),.bool true])∧w'=w:=by
 obtain ⟨n0,n1⟩:=zad hn
 obtain ⟨c0,c1⟩:=zad hc
 exfalso
 have hr:=zar b
 omega
theorem zxt (cut b next:Int) (w:World) (hn:mayB next=true) (hb:lenB b=true) (b0:1≤b) (b1:b≤4) (hc:mayB cut=true) (hl:cut<rnd b)
  (t0:next≤cut) (t1:cut+rnd b≤1073741823) (t2:cut≤next) (t3:next-(cut)<cut+rnd b-next):
  Calls Tryz.prog 97 #[.int .i64 cut,.int .i64 b,.int .i64 next] w fun e w'=>e= .returned (.tuple #[.int .i64 (cut),.bool true])∧w'=w:=by
 obtain ⟨n0,n1⟩:=zad hn
 obtain ⟨c0,c1⟩:=zad hc
 go_enter Tryz.func97,Tryz.ntmps97
 go_wp2_with fail
 refine (rmay next _).mono ?_
 rintro e w1 ⟨rfl,rfl⟩
 rw [hn]
 go_wp2_with fail
 refine (round b _ hb).mono ?_
 rintro e w1 ⟨rfl,rfl⟩
 obtain ⟨hr0,hr1⟩:=zar b
 generalize hrr:rnd b=r at hr0 hr1 hl t1 t2 t3 ⊢
 go_wp2
 go_ret2
 rw [←hrr];exact ⟨rfl,rfl⟩
theorem zsj (cut b next:Int) (w:World) (h:zch cut b next=true):
  Calls Tryz.prog 97 #[.int .i64 cut,.int .i64 b,.int .i64 next] w fun e w'=>e= .returned (.tuple #[.int .i64 (near cut (rnd b) next),.bool true])∧w'=w:=by
 rw [←zBp cut b next h]
 obtain ⟨⟨⟨hn,hb⟩,hc⟩,hl⟩:=(zfp _ _ _).1 h
 have hb':1≤b∧b≤4:=of_decide_eq_true hb
 unfold zGa
 by_cases t0:cut<next
 ·have hlw:low cut (rnd b) next=cut+(next-cut)/rnd b*rnd b:=by simp [low,t0]
  rw [hlw]
  by_cases t1:1073741823<cut+(next-cut)/rnd b*rnd b+rnd b
  ·rw [if_pos (Or.inl t1)];exact zww cut b next w hn hb hb'.1 hb'.2 hc hl t0 t1
  ·by_cases t2:next<cut+(next-cut)/rnd b*rnd b
   ·rw [if_pos (Or.inr t2)];exact zxs cut b next w hn hb hb'.1 hb'.2 hc hl t0 (by omega) t2
   ·rw [if_neg (by omega)]
    by_cases t3:cut+(next-cut)/rnd b*rnd b+rnd b-next≤next-(cut+(next-cut)/rnd b*rnd b)
    ·rw [if_pos t3];exact zvc cut b next w hn hb hb'.1 hb'.2 hc hl t0 (by omega) (by omega) t3
    ·rw [if_neg t3];exact zve cut b next w hn hb hb'.1 hb'.2 hc hl t0 (by omega) (by omega) (by omega)
 ·have hlw:low cut (rnd b) next=cut:=by simp [low,t0]
  rw [hlw]
  by_cases t1:1073741823<cut+rnd b
  ·rw [if_pos (Or.inl t1)];exact zu6 cut b next w hn hb hb'.1 hb'.2 hc hl (by omega) t1
  ·by_cases t2:next<cut
   ·rw [if_pos (Or.inr t2)];exact zx8 cut b next w hn hb hb'.1 hb'.2 hc hl (by omega) (by omega) t2
   ·rw [if_neg (by omega)]
    by_cases t3:cut+rnd b-next≤next-cut
    ·rw [if_pos t3];exact zyx cut b next w hn hb hb'.1 hb'.2 hc hl (by omega) (by omega) (by omega) t3
    ·rw [if_neg t3];exact zxt cut b next w hn hb hb'.1 hb'.2 hc hl (by omega) (by omega) (by omega) (by omega)
theorem zFn (w:World):
  Calls Tryz.prog 94 #[.int .i64 0] w fun e w'=>e= .returned (.int .i64 1)∧w'=w:=by
 go_enter Tryz.func94,Tryz.ntmps94
 go_wp2
 refine wp_loop_rounds 2 ?_
 rw [rounds_succ];go_wp2
 go_ret
 exact ⟨rfl,rfl⟩
end Go.Proofs.YtdnehibcpkjafaaGreatDoor.U
namespace Go.Proofs.YtdnehibcpkjafaaGreatDoor
open Go.RowKit Go.Lib Go.Sort
abbrev F:=Int×List Int×ByteArray
def fF (f:F):Int:=frF f.1 f.2.1 f.2.2
def fS (f:F):ByteArray:=frS f.1 f.2.1 f.2.2
def fat (l:List F) (j:Nat):F:=l[j]?.getD (0,[],{data:= #[]})
def fsF:List F→Int
 | []=>0
 | f::fs=>if fF f≠0 then fF f else fsF fs
def fsS:List F→ByteArray
 | []=> {data:= #[]}
 | f::fs=>fS f++fsS fs
theorem zgx (f:F) (l:List F) (j:Nat):fat (f::l) (j+1)=fat l j:=by simp [fat]
theorem zg2 (f:F) (l:List F):fat (f::l) 0=f:=by simp [fat]
theorem zmr {l:List F} {j:Nat} (h:j<l.length):fat l j=l[j]:=by simp [fat,h]
theorem zpc {l:List F} {j:Nat} (h:j<l.length):fat l j∈l:=by rw [zmr h];exact List.getElem_mem h
theorem zw7:∀(l:List F) (k:Nat),k<l.length→(∀j,j<k→fF (fat l j)=0)→fF (fat l k)≠0→fsF l=fF (fat l k)
 | [],k,h,_,_=>by simp at h
 | f::l,0,_,_,hn=>by
  rw [zg2] at hn ⊢
  simp [fsF,hn]
 | f::l,k+1,h,h0,hn=>by
  have e:=h0 0 (by omega)
  rw [zg2] at e
  rw [zgx] at hn ⊢
  simp only [fsF,e,ne_eq,not_true,if_false]
  exact zw7 l k (by simpa using h) (fun j hj=>by have:=h0 (j+1) (by omega);rwa [zgx] at this) hn
theorem zrc:∀(l:List F),(∀j,j<l.length→fF (fat l j)=0)→fsF l=0
 | [],_=>rfl
 | f::l,h=>by
  have e:=h 0 (by simp)
  rw [zg2] at e
  simp only [fsF,e,ne_eq,not_true,if_false]
  exact zrc l (fun j hj=>by have:=h (j+1) (by simpa using hj);rwa [zgx] at this)
theorem zmh:∀(l:List F),fsF l=0→∀j,j<l.length→fF (fat l j)=0
 | [],_,j,h=>by simp at h
 | f::l,h,j,hj=>by
  by_cases e:fF f=0
  ·simp only [fsF,e,ne_eq,not_true,if_false] at h
   cases j with
   | zero=>rw [zg2];exact e
   | succ j=>rw [zgx];exact zmh l h j (by simpa using hj)
  ·simp only [fsF,ne_eq,e,not_false_iff,if_true] at h
theorem zrz (a b c:ByteArray):a++b++c=a++(b++c):=by
 apply zbb
 simp only [V.zce,List.append_assoc]
theorem zC7 (a:ByteArray):a++({data:= #[]}:ByteArray)=a:=by
 apply zbb
 rw [V.zce]
 show V.ints a++ []=_
 simp
theorem zH4 (a:ByteArray):({data:= #[]}:ByteArray)++a=a:=by
 apply zbb
 rw [V.zce]
 rfl
theorem zht:∀(a b:List F),fsS (a++b)=fsS a++fsS b
 | [],b=>by simp only [List.nil_append,fsS];rw [zH4]
 | f::a,b=>by simp only [List.cons_append,fsS,zht a b,zrz]
theorem zu8 (f:F):fsS [f]=fS f:=by simp only [fsS];rw [zC7]
theorem zm2 {l:List F} {k:Nat} (h:k<l.length):fsS (l.take (k+1))=fsS (l.take k)++fS (fat l k):=by
 rw [List.take_succ_eq_append_getElem h,zht,zu8,zmr h]
theorem zGp (k:Int) (ns:List Int) (d:ByteArray):1≤(frS k ns d).size:=by
 unfold frS
 rw [ByteArray.size_append,ByteArray.size_append]
 have:(strOfNums [k]).size=1:=rfl
 omega
def numB (n b:Int):List Int:=if b=1 then [n%256] else if b=2 then [n/256%256,n%256] else if b=3 then [n/65536%256,n/256%256,n%256] else [n/16777216%256,n/65536%256,n/256%256,n%256]
def pkN (n k:Int):ByteArray:=strOfNums [U.need n k]++strOfNums (numB n (U.need n k))
def pkS (n k:Int) (l:List F):ByteArray:=pkN n k++fsS l
def pkF (n k:Int) (l:List F):Int:=if U.zc8 n k=false then 1 else if l.length=0 then 5 else if 12<l.length then 4 else if fsF l≠0 then fsF l else if 200<(pkS n k l).size then 4 else 0
theorem zf2 {n b:Int} (h:U.lenB b=true):((numB n b).length:Int)=b:=by
 rcases U.zbz h with rfl | rfl | rfl | rfl<;>rfl
theorem zhw (n b:Int):Bytes (numB n b):=by
 have h:∀m:Int,0≤m%256∧m%256<256:=fun m=>by omega
 unfold numB Bytes
 intro z hz
 split at hz
 ·simp at hz;subst hz;exact h _
 ·split at hz
  ·simp at hz;rcases hz with rfl | rfl<;>exact h _
  ·split at hz
   ·simp at hz;rcases hz with rfl | rfl | rfl<;>exact h _
   ·simp at hz;rcases hz with rfl | rfl | rfl | rfl<;>exact h _
def big (l:List Int):Int:=l.foldl (fun c x=>256*c+x) 0
theorem zg0 {l:List Int} {k:Nat} (h:k<l.length):big (l.take (k+1))=256*big (l.take k)+l[k]?.getD 0:=by
 rw [List.take_succ_eq_append_getElem h,List.getElem?_eq_getElem h]
 unfold big
 rw [List.foldl_append]
 rfl
theorem zH9 {l:List Int} (hl:Bytes l):∀k,k≤l.length→0≤big (l.take k)∧big (l.take k)<(256:Int) ^ k:=by
 intro k
 induction k with
 | zero=>intro _;simp [big]
 | succ k ih=>
  intro h
  have i:=ih (by omega)
  have hb:0≤l[k]?.getD 0∧l[k]?.getD 0<256:=by
   rw [List.getElem?_eq_getElem (by omega)]
   exact hl _ (List.getElem_mem _)
  rw [zg0 (by omega),Int.pow_succ]
  generalize l[k]?.getD 0=y at hb
  generalize big (l.take k)=z at i
  generalize (256:Int) ^ k=p at i
  omega
theorem zgg {l:List Int} (hl:Bytes l) (k:Nat) (h:k≤l.length) (h3:k≤3):0≤big (l.take k)∧big (l.take k)<16777216:=by
 have i:=zH9 hl k h
 have:(256:Int) ^ k≤16777216:=by
  match k,h3 with
  | 0,_=>decide
  | 1,_=>decide
  | 2,_=>decide
  | 3,_=>decide
 omega
theorem zCu {n b:Int} (h0:0≤n) (hb:U.lenB b=true):big (numB n b)=n%U.rnd b:=by
 rcases U.zbz hb with rfl | rfl | rfl | rfl<;>simp [numB,big,U.rnd]<;>omega
def rdLk:Nat→ByteArray→Option (List F)
 | 0,s=>if s.size=0 then some [] else none
 | k+1,s=>if s.size=0 then some [] else
  match rdF s with
  | none=>none
  | some x=>(rdLk k (s.extract x.2 s.size)).map (x.1:: ·)
def rdL (s:ByteArray):Option (List F):=rdLk s.size s
theorem zpn:∀(k j:Nat) (s:ByteArray),s.size≤k→s.size≤j→rdLk k s=rdLk j s:=by
 intro k
 induction k with
 | zero=>
  intro j s hk _
  have h0:s.size=0:=by omega
  cases j with
  | zero=>rfl
  | succ j=>simp only [rdLk,if_pos h0]
 | succ k ih=>
  intro j s hk hj
  by_cases h0:s.size=0
  ·cases j with
   | zero=>simp only [rdLk,if_pos h0]
   | succ j=>simp only [rdLk,if_pos h0]
  ·cases j with
   | zero=>omega
   | succ j=>
    simp only [rdLk,if_neg h0]
    cases h1:rdF s with
    | none=>rfl
    | some x=>
     obtain ⟨⟨a,ns,d⟩,n⟩:=x
     have hi:=zpf h1
     have hz:(s.extract n s.size).size=s.size-n:=by rw [ByteArray.size_extract];omega
     simp only
     rw [ih j (s.extract n s.size) (by omega) (by omega)]
theorem zkb {s:ByteArray} (h:s.size=0):rdL s=some []:=by
 unfold rdL
 rw [h]
 simp only [rdLk,if_pos h]
theorem zlx {s:ByteArray} (h:s.size≠0) (h1:rdF s=none):rdL s=none:=by
 obtain ⟨m,hm⟩:∃m,s.size=m+1:=⟨s.size-1,by omega⟩
 unfold rdL
 rw [hm]
 simp only [rdLk,if_neg h,h1]
theorem ziy {s:ByteArray} {f:F} {n:Nat} (h:s.size≠0) (h1:rdF s=some (f,n)):rdL s=(rdL (s.extract n s.size)).map (f:: ·):=by
 obtain ⟨m,hm⟩:∃m,s.size=m+1:=⟨s.size-1,by omega⟩
 obtain ⟨a,ns,d⟩:=f
 have hi:=zpf h1
 have hz:(s.extract n s.size).size=s.size-n:=by rw [ByteArray.size_extract];omega
 have e:rdL s=(rdLk m (s.extract n s.size)).map ((a,ns,d):: ·):=by
  show rdLk s.size s=_
  conv=>lhs;rw [hm]
  simp only [rdLk,if_neg h,h1]
 rw [e,zpn m (s.extract n s.size).size _ (by omega) (Nat.le_refl _)]
 rfl
theorem zHa {s:ByteArray} (h:s.size≠0):rdL s≠some []:=by
 intro e
 cases h1:rdF s with
 | none=>rw [zlx h h1] at e;cases e
 | some x=>
  obtain ⟨f,n⟩:=x
  rw [ziy h h1] at e
  cases h2:rdL (s.extract n s.size) with
  | none=>rw [h2] at e;cases e
  | some y=>rw [h2] at e;cases e
def rdLA (L:List F) (s:ByteArray):Option (List F):=(rdL s).map (L++ ·)
theorem zlb (s:ByteArray):rdLA [] s=rdL s:=by unfold rdLA;cases rdL s<;>simp
theorem zsa {L:List F} {s:ByteArray} (h:s.size=0):rdLA L s=some L:=by simp [rdLA,zkb h]
theorem zoi {L:List F} {s:ByteArray} (h:s.size≠0) (h1:rdF s=none):rdLA L s=none:=by simp [rdLA,zlx h h1]
theorem zom {L:List F} {s:ByteArray} {f:F} {n:Nat} (h:s.size≠0) (h1:rdF s=some (f,n)):rdLA L s=rdLA (L++ [f]) (s.extract n s.size):=by
 unfold rdLA
 rw [ziy h h1]
 cases rdL (s.extract n s.size)<;>simp
theorem zj8 {L:List F} {s:ByteArray} {f:F} {n:Nat} (h1:rdF s=some (f,n)):fF f=0∧1≤n∧n≤s.size:=by
 obtain ⟨k,ns,d⟩:=f
 have:=zpf h1
 exact ⟨this.1,this.2.1,this.2.2.1⟩
def fin (o:Option (List F)):Option (List F):=o.bind fun l=>if l.length=0∨12<l.length then none else some l
theorem zBh {L:List F} {s:ByteArray} (hL:L.length=12) (h:s.size≠0):fin (rdLA L s)=none:=by
 unfold rdLA
 cases h1:rdL s with
 | none=>rfl
 | some y=>
  have hy:y.length≠0:=fun e=>by rw [List.eq_nil_of_length_eq_zero e] at h1;exact zHa h h1
  simp only [Option.map_some,fin,Option.bind_some]
  rw [if_pos (by rw [List.length_append];omega)]
theorem zm0 {l:List F} (h:1≤l.length) (h2:l.length≤12):fin (some l)=some l:=by
 simp only [fin,Option.bind_some]
 rw [if_neg (by omega)]
theorem zzu {l:List F} (h:12<l.length):fin (some l)=none:=by
 simp only [fin,Option.bind_some]
 rw [if_pos (by omega)]
def rdN (s:ByteArray) (next:Int):Option (Int×Nat):=match V.ints s with
 | []=>none
 | k::l=>if U.lenB k=false∨(l.length:Int)<k then none else if U.zch (big (l.take k.toNat)) k next=false then none else some (U.near (big (l.take k.toNat)) (U.rnd k) next,1+k.toNat)
def rdP (s:ByteArray) (next:Int):Option (Int×List F):=(rdN s next).bind fun x=>(fin (rdL (s.extract x.2 s.size))).map fun l=>(x.1,l)
def opF (s:ByteArray) (next:Int):Int:=if U.mayB next=false then 1 else if 200<s.size then 4 else if rdP s next=none then 2 else 0
theorem zsc:∀(l:List F),fsF l=0→rdL (fsS l)=some l
 | [],_=>zkb rfl
 | f::l,h=>by
  have h0:=zmh _ h 0 (by simp)
  rw [zg2] at h0
  have h1:fsF l=0:=by simpa only [fsF,h0,ne_eq,not_true,if_false] using h
  obtain ⟨k,ns,d⟩:=f
  have hb:=zz1 (k:=k) (ns:=ns) (d:=d) h0 (fsS l)
  have hp:=zGp k ns d
  have hsz:(fsS ((k,ns,d)::l)).size≠0:=by
   show (frS k ns d++fsS l).size≠0
   rw [ByteArray.size_append];omega
  rw [ziy hsz (show rdF (fsS ((k,ns,d)::l))=some ((k,ns,d),(frS k ns d).size) from hb)]
  have e:(fsS ((k,ns,d)::l)).extract (frS k ns d).size (fsS ((k,ns,d)::l)).size=fsS l:=by
   apply zbb
   rw [zae _ _ (by show _≤(frS k ns d++fsS l).size;rw [ByteArray.size_append];omega)]
   show (V.ints (frS k ns d++fsS l)).drop _=_
   rw [V.zce,←zaa (frS k ns d),List.drop_left]
  rw [e,zsc l h1]
  rfl
theorem zie {n k:Int} {l:List F} (h:pkF n k l=0):U.zc8 n k=true∧1≤l.length∧l.length≤12∧fsF l=0∧(pkS n k l).size≤200:=by
 unfold pkF at h
 split at h
 ·cases h
 ·rename_i h1
  split at h
  ·cases h
  ·split at h
   ·cases h
   ·split at h
    ·contradiction
    ·rename_i h4
     split at h
     ·cases h
     ·exact ⟨by simpa using h1,by omega,by omega,by simpa using h4,by omega⟩
theorem ziz (n k:Int):V.ints (pkN n k)=U.need n k::numB n (U.need n k):=by
 unfold pkN
 have h:=U.zbz (U.zdm n k)
 rw [V.zce,V.zem _ (zhw _ _),V.zem [U.need n k] (fun z hz=>by simp at hz;subst hz;omega)]
 rfl
def FCells (w:World) (b off:Nat) (fs:List F):Prop:=∀j,j<fs.length→∃u,w.cell? ⟨b,off+j*3,none⟩=some (.int .i64 (fat fs j).1)∧w.cell? ⟨b,off+j*3+1,none⟩=some u∧w.cell? ⟨b,off+j*3+2,none⟩=some (.string (fat fs j).2.2)∧IRow w u (fat fs j).2.1∧(fat fs j).2.2.size≤maxLen
def FRow (w:World) (v:Value) (fs:List F):Prop:=∃ao c,v= .slice ao fs.length c∧fs.length≤9223372036854775807∧fs.length≤c∧(fs= []∨∃b off,ao=some ⟨b,off,none⟩∧b<w.heap.size∧FCells w b off fs)
theorem FCells.below {w w':World} {b off:Nat} {fs:List F} (h:FCells w b off fs) (hb:b<w.heap.size) (bel:Below w.heap.size w w'):FCells w' b off fs:=fun j hj=>by
 obtain ⟨u,h0,h1,h2,h3,h4⟩:=h j hj
 exact ⟨u,(bel.cell (p:=⟨b,off+j*3,none⟩) hb).trans h0,(bel.cell (p:=⟨b,off+j*3+1,none⟩) hb).trans h1,(bel.cell (p:=⟨b,off+j*3+2,none⟩) hb).trans h2,h3.below bel,h4⟩
theorem FRow.below {w w':World} {v:Value} {fs:List F} (h:FRow w v fs) (bel:Below w.heap.size w w'):FRow w' v fs:=by
 obtain ⟨ao,c,rfl,hl,hn,h⟩:=h
 refine ⟨ao,c,rfl,hl,hn,?_⟩
 rcases h with h | ⟨b,off,rfl,hb,hc⟩
 ·exact .inl h
 ·exact .inr ⟨b,off,rfl,Nat.lt_of_lt_of_le hb bel.size,hc.below hb bel⟩
theorem FRow.shape {w:World} {v:Value} {fs:List F} (h:FRow w v fs):∃ao c,v= .slice ao fs.length c:=by
 obtain ⟨ao,c,e,_⟩:=h
 exact ⟨ao,c,e⟩
def uat (us:List Value) (j:Nat):Value:=us[j]?.getD .nilIface
def fcs:List Value→List F→List Value
 | u::us,f::fs=> .int .i64 f.1::u:: .string f.2.2::fcs us fs
 | _,_=> []
theorem zkh:∀(us:List Value) (fs:List F) (j:Nat),us.length=fs.length→j<fs.length→(fcs us fs)[j*3]? =some (.int .i64 (fat fs j).1)∧(fcs us fs)[j*3+1]? =some (uat us j)∧(fcs us fs)[j*3+2]? =some (.string (fat fs j).2.2)
 | [],[],j,_,h=>by simp at h
 | [],f::fs,j,h,_=>by simp at h
 | u::us,[],j,h,_=>by simp at h
 | u::us,f::fs,0,_,_=>by simp [fcs,fat,uat]
 | u::us,f::fs,j+1,h,h1=>by
  have i:=zkh us fs j (by simpa using h) (by simpa using h1)
  have e1:(j+1)*3=j*3+1+1+1:=by omega
  have e2:uat (u::us) (j+1)=uat us j:=by simp [uat]
  rw [e1,zgx,e2]
  simpa [fcs] using i
theorem zrq:∀(us:List Value) (fs:List F) (u:Value) (f:F),us.length=fs.length→fcs (us++ [u]) (fs++ [f])=fcs us fs++ [.int .i64 f.1,u,.string f.2.2]
 | [],[],u,f,_=>rfl
 | [],g::fs,u,f,h=>by simp at h
 | v::us,[],u,f,h=>by simp at h
 | v::us,g::fs,u,f,h=>by simp only [List.cons_append,fcs,zrq us fs u f (by simpa using h)]
structure FOwn (w:World) (B:Nat) (v:Value) (us:List Value) (fs:List F):Prop where
 len:us.length=fs.length
 own:w.ownsRow B 114 3 v fs.length (fcs us fs)
 rows:∀j,j<fs.length→OwnI w B (uat us j) (fat fs j).2.1
 good:∀j,j<fs.length→fF (fat fs j)=0
theorem FOwn.nil (w:World) (B:Nat):FOwn w B (.slice none 0 0) [] []:=⟨rfl,World.ownsRow_nil _ _ _ _,fun j h=>by simp at h,fun j h=>by simp at h⟩
theorem FOwn.below {w w':World} {B:Nat} {v:Value} {us:List Value} {fs:List F} (h:FOwn w B v us fs) (bel:Below w.heap.size w w'):FOwn w' B v us fs:=
 ⟨h.len,own_below h.own bel,fun j hj=>(h.rows j hj).below bel,h.good⟩
theorem znv {w:World} {B B' n m:Nat} {u v:Value} {xs ys:List Value} (h:w.ownsRow B 3 1 u n xs) (h':w.ownsRow B' 114 3 v m ys):u.ownBlock=none∨u.ownBlock≠v.ownBlock:=by
 rcases h.2 with ⟨rfl,_⟩ | ⟨g,cap,cur,rfl,_,hg,_⟩
 ·exact .inl rfl
 ·right
  intro e
  rcases h'.2 with ⟨rfl,_⟩ | ⟨g',cap',cur',rfl,_,hg',_⟩
  ·cases e
  ·have:g=g':=by simpa [Value.ownBlock] using e
   subst this
   rw [hg] at hg'
   cases hg'
theorem zl0 {us:List Value} {u:Value} {j:Nat} (h:j<us.length):uat (us++ [u]) j=uat us j:=by simp [uat,List.getElem?_append_left h]
theorem zm1 {us:List Value} {u:Value}:uat (us++ [u]) us.length=u:=by simp [uat]
theorem zwe {fs:List F} {f:F} {j:Nat} (h:j<fs.length):fat (fs++ [f]) j=fat fs j:=by simp [fat,List.getElem?_append_left h]
theorem zx6 {fs:List F} {f:F}:fat (fs++ [f]) fs.length=f:=by simp [fat]
theorem FOwn.app {w w':World} {B:Nat} {v v' u:Value} {us:List Value} {fs:List F} {f:F} (h:FOwn w B v us fs) (hu:OwnI w B u f.2.1) (hf:fF f=0)
  (ho:w'.ownsRow B 114 3 v' (fs.length+1) (fcs us fs++ [.int .i64 f.1,u,.string f.2.2])) (hg:w.grownBy w' v.ownBlock):FOwn w' B v' (us++ [u]) (fs++ [f]):=by
 refine ⟨by simp [h.len],by rw [zrq _ _ _ _ h.len,List.length_append];exact ho,fun j hj=> ?_,fun j hj=> ?_⟩
 ·rw [List.length_append,List.length_cons,List.length_nil] at hj
  by_cases e:j=fs.length
  ·rw [e,zx6,←h.len,zm1]
   exact hu.kept hg (znv hu h.own)
  ·have hj':j<fs.length:=by omega
   rw [zwe hj',zl0 (by rw [h.len];exact hj')]
   exact (h.rows j hj').kept hg (znv (h.rows j hj') h.own)
 ·rw [List.length_append,List.length_cons,List.length_nil] at hj
  by_cases e:j=fs.length
  ·rw [e,zx6];exact hf
  ·rw [zwe (by omega)];exact h.good j (by omega)
theorem zio {f:F} (h:fF f=0):f.2.1.length≤24∧f.2.2.size≤20:=by
 obtain ⟨_,h2,_,_,h5,_⟩:=zdj h
 refine ⟨?_,h5⟩
 unfold cntB at h2
 split at h2
 ·have:=of_decide_eq_true h2;omega
 ·have:=of_decide_eq_true h2
  rw [this];unfold cntK;split
  ·omega
  ·split<;>omega
theorem FOwn.row {w:World} {B:Nat} {v:Value} {us:List Value} {fs:List F} (h:FOwn w B v us fs) (hl:fs.length≤1000000):FRow w v fs:=by
 rcases h.own.2 with ⟨e,h0⟩ | ⟨g,cap,cur,e,hb,hg,hcap,_⟩
 ·exact ⟨none,0,by rw [e,h0],by omega,by omega,.inl (List.eq_nil_of_length_eq_zero h0)⟩
 ·refine ⟨some ⟨g,0,none⟩,cap,e,by omega,hcap,.inr ⟨g,0,rfl,(Array.getElem?_eq_some_iff.1 hg).1,fun j hj=> ?_⟩⟩
  have ho:=h.own
  rw [e] at ho
  have f:=zkh us fs j h.len hj
  have c0:=ho.cells (g:=g) rfl _ _ f.1
  have c1:=ho.cells (g:=g) rfl _ _ f.2.1
  have c2:=ho.cells (g:=g) rfl _ _ f.2.2
  rw [Addr.add_lit] at c0 c1 c2
  have hs:=zio (h.good j hj)
  exact ⟨_,c0,by rw [←Nat.add_assoc] at c1;exact c1,by rw [←Nat.add_assoc] at c2;exact c2,ze4 (h.rows j hj) (by omega),by unfold maxLen;omega⟩
theorem zvb:(Tryz.prog.info? 114).map (fun i=>(i.zero,i.size,i.bytes))=some (some (.agg #[.int .i64 0,.slice none 0 0,.string {data:= #[]}]),3,48):=by kernel_rfl
theorem za0 (w:World) (k:Int) (u:Value) (d:ByteArray) (t:TypeId):∀(j:Nat) (u':Value),[Value.int .i64 k,u,.string d][j]? =some u'→(w.alloc (.cells #[.int .i64 k,u,.string d] t)).cell? ((⟨w.heap.size,0,none⟩:Addr).add j)=some u':=by
 intro j u' h
 rw [Addr.add_lit]
 match j,h with
 | 0,h=>simp at h;subst h;simp
 | 1,h=>simp at h;subst h;simp
 | 2,h=>simp at h;subst h;simp
 | j+3,h=>simp at h
theorem zcl (k:Int) (a:Option Addr) (n c:Nat) (d:ByteArray):∀u'∈ [Value.int .i64 k,.slice a n c,.string d],u'.oneCell'=true:=by
 intro u' h
 simp at h
 rcases h with rfl | rfl | rfl<;>rfl
theorem zlz {k:Int} {ns:List Int} {d:ByteArray} (h:frF k ns d=0):(frS k ns d).size≤121:=by
 have h1:=zr8 h
 have h2:=(zdj h).2.2.2.2.1
 unfold frS
 rw [ByteArray.size_append,ByteArray.size_append,strOfNums_size [k]]
 simp only [List.length_cons,List.length_nil]
 omega
theorem zmt {l:List F} (h:∀j,j<l.length→fF (fat l j)=0):∀k,k≤l.length→(fsS (l.take k)).size≤121*k:=by
 intro k
 induction k with
 | zero=>intro _;simp [fsS];rfl
 | succ k ih=>
  intro hk
  have i:=ih (by omega)
  have s:(fS (fat l k)).size≤121:=zlz (h k (by omega))
  rw [zm2 (by omega),ByteArray.size_append]
  omega
end Go.Proofs.YtdnehibcpkjafaaGreatDoor
namespace Go.Proofs.YtdnehibcpkjafaaGreatDoor
open Go.RowKit Go.Shelf Go.Lib
attribute [local go_sem] Oper.semAt_some
theorem qmk1 (w:World):(Instr.makeSlice 96 (.int .i64 1) (.int .i64 1)).run Tryz.prog w= .ok (.slice (some ⟨w.heap.size,0,none⟩) 1 1) (w.alloc (.cells #[.int .u8 0] 5)):=by kernel_rfl
theorem qmk2 (w:World):(Instr.makeSlice 96 (.int .i64 2) (.int .i64 2)).run Tryz.prog w= .ok (.slice (some ⟨w.heap.size,0,none⟩) 2 2) (w.alloc (.cells #[.int .u8 0,.int .u8 0] 5)):=by kernel_rfl
theorem qmk3 (w:World):(Instr.makeSlice 96 (.int .i64 3) (.int .i64 3)).run Tryz.prog w= .ok (.slice (some ⟨w.heap.size,0,none⟩) 3 3) (w.alloc (.cells #[.int .u8 0,.int .u8 0,.int .u8 0] 5)):=by kernel_rfl
theorem qmk4 (w:World):(Instr.makeSlice 96 (.int .i64 4) (.int .i64 4)).run Tryz.prog w= .ok (.slice (some ⟨w.heap.size,0,none⟩) 4 4) (w.alloc (.cells #[.int .u8 0,.int .u8 0,.int .u8 0,.int .u8 0] 5)):=by kernel_rfl
theorem zH2 (n k c:Int) (w:World) (hne:∀W,Calls Tryz.prog 99 #[.int .i64 n,.int .i64 k] W fun e w'=>e= .returned (.tuple #[.int .i64 1,.nilIface])∧W=w') (hcu:∀W,Calls Tryz.prog 100 #[.int .i64 n,.int .i64 1] W fun e w'=>e= .returned (.tuple #[.int .i64 c,.nilIface])∧W=w') (h0:0≤c) (h1:c<4294967296) (xs:List Int) (hxs:(V.after c [0] (V.zbt 1 1)).2=xs):
  Calls Tryz.prog 73 #[.int .i64 n,.int .i64 k] w fun e w'=>e= .returned (.tuple #[.string (strOfNums [1]++strOfNums xs),.nilIface])∧Below w.heap.size w w':=by
 refine (callsIn_wide (n:=4)).1 ?_
 have f1:Fence.wide.fn 99:=trivial
 have f2:Fence.wide.fn 100:=trivial
 have f3:Fence.wide.fn 101:=trivial
 have hmk:=qmk1
 refine callsIn_of_wp_marks Tryz.func73 rfl trivial ?_ rfl
 simp only [Tryz.ntmps73,List.size_toArray,List.length_cons,List.length_nil,Nat.reduceAdd,Nat.reduceSub,Array.replicate_succ,Array.replicate_zero,List.push_toArray,List.append_toArray,List.nil_append,List.cons_append]
 gi_wp2_with (first | (gi_at_call 99;refine (callsIn_wide.2 (hne _)).mono ?_;rintro e w1 ⟨rfl,rfl⟩) | (gi_at_call 100;refine (callsIn_wide.2 (hcu _)).mono ?_;rintro e w1 ⟨rfl,rfl⟩) | (gi_at_call 101;refine (V.zf3 Fence.wide 3 trivial rfl _ _ _ _).mono ?_;rintro e w' ⟨rfl,rfl⟩))
 clear hmk
 obtain ⟨W0,hW0⟩:∃W0,((((w.alloc (.cells #[.int .i64 c] 3)).alloc (.cells #[.int .u8 0] 5)).alloc (.cells #[(.slice (some ⟨w.heap.size+1,0,none⟩) 1 1)] 96)).alloc (.cells #[(.slice (some ⟨w.heap.size+1,0,none⟩) 1 1)] 96))=W0:=⟨_,rfl⟩
 have sz:W0.heap.size=w.heap.size+4:=by rw [←hW0];simp
 have bR:Boxed W0 w.heap.size 3 (.int .i64 c):=by rw [←hW0];exact (((Boxed.new w 3 _).alloc _).alloc _).alloc _
 have bB:V.Byt W0 (w.heap.size+1) [0]:=by
  rw [←hW0]
  have h:V.Byt ((w.alloc (.cells #[.int .i64 c] 3)).alloc (.cells #[.int .u8 0] 5)) (w.heap.size+1) [0]:=by
   have:=World.alloc_heap_new (w.alloc (.cells #[.int .i64 c] 3)) (.cells #[.int .u8 0] 5)
   rwa [World.size_alloc] at this
  exact (h.alloc _).alloc _
 have bS:Boxed W0 (w.heap.size+1+1) 96 (.slice (some ⟨w.heap.size+1,0,none⟩) 1 1):=by
  rw [←hW0]
  have h:=Boxed.new ((w.alloc (.cells #[.int .i64 c] 3)).alloc (.cells #[.int .u8 0] 5)) 96 (.slice (some ⟨w.heap.size+1,0,none⟩) 1 1)
  rw [World.size_alloc,World.size_alloc] at h
  exact h.alloc _
 have bH:Boxed W0 (w.heap.size+1+1+1) 96 (.slice (some ⟨w.heap.size+1,0,none⟩) 1 1):=by
  rw [←hW0]
  have h:=Boxed.new (((w.alloc (.cells #[.int .i64 c] 3)).alloc (.cells #[.int .u8 0] 5)).alloc (.cells #[(.slice (some ⟨w.heap.size+1,0,none⟩) 1 1)] 96)) 96 (.slice (some ⟨w.heap.size+1,0,none⟩) 1 1)
  rw [World.size_alloc,World.size_alloc,World.size_alloc] at h
  exact h
 have hB0:Below w.heap.size w W0:=by
  rw [←hW0]
  exact (((((Below.refl _ w).alloc (Nat.le_refl _) _).alloc (by simp<;>omega) _).alloc (by simp<;>omega) _).alloc (by simp<;>omega) _)
 rw [hW0]
 clear hW0
 refine wpIn_rangeFunc_ownG rfl (by decide) (gf:=128) (lb:= #[.pointer (some ⟨w.heap.size+1+1+1,0,none⟩)]) rfl trivial (enters_of Tryz.func128 (by kernel_rfl) rfl)
  (V.zc0 Fence.wide (4-1) trivial rfl (by decide) (w.heap.size+1+1+1) (w.heap.size+1) 1 1 (by decide) W0 (by omega) (by omega) ⟨bH.cell,fun j hj=>⟨_,bB.cell j hj⟩⟩)
  (fun h k hR=>k (h hR)) (V.KpRow.put (w:=W0)) (Below.refl _ _) (fun _=>rfl)
  (fun pre W=>Boxed W w.heap.size 3 (.int .i64 (V.after c [0] (pre.map fun x=>x.1.1)).1)∧V.Byt W (w.heap.size+1) (V.after c [0] (pre.map fun x=>x.1.1)).2∧Boxed W (w.heap.size+1+1) 96 (.slice (some ⟨w.heap.size+1,0,none⟩) 1 1)∧Boxed W (w.heap.size+1+1+1) 96 (.slice (some ⟨w.heap.size+1,0,none⟩) 1 1)∧Below w.heap.size w W)
  (fun _ _ _=>False)
  (OwnFrom.and (Own.from (boxed_own _ _ _) _) (OwnFrom.and (Own.from (V.Byt.own _ _) _) (OwnFrom.and (Own.from (boxed_own _ _ _) _) (OwnFrom.and (Own.from (boxed_own _ _ _) _) (ownFrom_below (Nat.le_refl _) (by omega))))))
  (fun _ _ _ _ _ hs _ _=>hs)
  ⟨bR,bB,bS,bH,hB0⟩
  (fun x=> {tmps:= #[.int .i64 n,.int .i64 k,undef,undef,.string {data:= #[]},.nilIface,.int .i64 1,.nilIface,.pointer (some ⟨w.heap.size,0,none⟩),.pointer (some ⟨w.heap.size+1+1,0,none⟩),.int .i64 (x.1.1:Int),.tuple #[.int .i64 1,.nilIface],.int .i64 n,.int .i64 k,.tuple #[.int .i64 1,.nilIface],.int .i64 1,.nilIface,.nilIface,.bool false,undef,.tuple #[.int .i64 c,.nilIface],.int .i64 n,.int .i64 1,.tuple #[.int .i64 c,.nilIface],.int .i64 c,.nilIface,.nilIface,.bool false,undef,.int .i64 1,(.slice (some ⟨w.heap.size+1,0,none⟩) 1 1),(.slice (some ⟨w.heap.size+1,0,none⟩) 1 1),.func (.func 128) #[] #[.pointer (some ⟨w.heap.size+1+1+1,0,none⟩)],.int .i64 (x.1.1:Int),.int .u8 x.1.2,undef,undef,undef,undef,undef,undef,undef,undef,undef,undef,undef,undef,undef,undef],defers:= []}) ?assign ?body ?done ?stop
 case assign=>
  intro l x W K hK
  gi_wp2
  exact hK
 case body=>
  rintro l pre ⟨⟨i,v⟩,hx⟩ W ⟨kR,kB,kS,kH,hB⟩ _
  have hx:i<1:=hx
  have hlen:=V.zbq c [0] (pre.map fun x=>x.1.1)
  have hbd:=V.zex c [0] (pre.map fun x=>x.1.1) h0 h1
  have sn:=V.zc4 c [0] (pre.map fun x=>x.1.1) i
  have kc:=kB.cell i (by rw [hlen];exact hx)
  have kf:=kB.frozen i
  have HS:Hid (V.after c [0] (pre.map (fun x=>x.1.1)++ [i])=V.step (V.after c [0] (pre.map fun x=>x.1.1)) i):=sn
  have HL:Hid ((V.after c [0] (pre.map fun x=>x.1.1)).2.length=1):=hlen
  clear sn hlen
  generalize V.after c [0] (pre.map fun x=>x.1.1)=st at *
  have kRc:=kR.cell
  have kRf:=kR.frozen
  have kSc:=kS.cell
  obtain ⟨hbd0,hbd1⟩:=hbd
  have g1:((i:Nat):Int)<1:=by omega
  gi_wp2
  have kB':=(kB.set i (st.1%256)).other (B':=w.heap.size) (by omega) (.int .i64 (st.1/256))
  have kR':=(V.Boxed.otherRow (B':=w.heap.size+1) (j:=i) kR (by omega) (.int .u8 (st.1%256))).set (.int .i64 (st.1/256))
  have kS':=(V.Boxed.otherRow (B':=w.heap.size+1) (j:=i) kS (by omega) (.int .u8 (st.1%256))).other (B':=w.heap.size) (by omega) (.int .i64 (st.1/256))
  have kH':=(V.Boxed.otherRow (B':=w.heap.size+1) (j:=i) kH (by omega) (.int .u8 (st.1%256))).other (B':=w.heap.size) (by omega) (.int .i64 (st.1/256))
  have hB':=(hB.setCell (p:=⟨w.heap.size+1,i,none⟩) (by show w.heap.size≤w.heap.size+1;omega) (.int .u8 (st.1%256))).setCell (p:=⟨w.heap.size,0,none⟩) (Nat.le_refl _) (.int .i64 (st.1/256))
  have hL:(st.2.set i (st.1%256)).length=1:=by rw [List.length_set];exact HL.out
  refine ⟨((KeepsOthers.setCell _ _ _).trans (KeepsOthers.setCell _ _ _)).from _,fun _=>⟨kH'.cell,fun j hj=>⟨_,kB'.cell j (by rw [hL];exact hj)⟩⟩,?_,?_,kS',kH',hB'⟩
  ·rw [List.map_append]
   show Boxed _ _ _ (.int .i64 (V.after c [0] (pre.map (fun x=>x.1.1)++ [i])).1)
   rw [HS.out];exact kR'
  ·rw [List.map_append]
   show V.Byt _ _ (V.after c [0] (pre.map (fun x=>x.1.1)++ [i])).2
   rw [HS.out];exact kB'
 case done=>
  rintro D ys W hD hys ⟨kR,kB,kS,kH,hB⟩ hK
  rw [hys,hxs] at kB
  have hl:xs.length=1:=by rw [←hxs,V.zbq];rfl
  have kB1:=kB.alloc (.cells #[.int .u8 1] 5)
  have hcv:=run_convert_bytes_arg (P:=Tryz.prog) (W.alloc (.cells #[.int .u8 1] 5)) 96 5 Tryz.underlying96 Tryz.underlying5 (w.heap.size+1) 0 1 1 xs hl (fun j hj=>by
   rw [Nat.zero_add,kB1.cell j (by omega)];simp [List.getD]) 9 Tryz.underlying9
  have hc1:=V.zb7 [1] W #[.int .u8 1] rfl
  simp only [List.length_cons,List.length_nil,Nat.reduceAdd] at hc1
  have kSc:=(kS.alloc (.cells #[.int .u8 1] 5)).cell
  have sa:(strOfNums [1]).size+(strOfNums xs).size≤9223372036854775807:=by rw [strOfNums_size,strOfNums_size,hl];simp
  have HL:Hid (xs.length=1):=hl
  have hK2:(W.alloc (.cells #[.int .u8 1] 5)).heap[D]? =some (Obj.deferred (some [])):=(heap_alloc_old W _ (Array.getElem?_eq_some_iff.1 hK).1).trans hK
  clear hl hys kB1
  generalize hsx:strOfNums xs=sx at hcv sa
  generalize hs1:strOfNums [1]=s1 at hc1 sa
  have HX:Hid (strOfNums xs=sx∧strOfNums [1]=s1):=⟨hsx,hs1⟩
  clear hsx hs1
  gi_wp2
  refine ⟨by simp,.inl ⟨_,_,rfl,run_takeDeferred hK2,?_⟩⟩
  exact ⟨_,results_tmp2 rfl _ _ _,by rw [HX.out.1,HX.out.2];rfl,(hB.alloc hB.size _).trans (belowK_b (w:=w) (Nat.le_refl _) _ D _ _ (by omega) hK2 rfl rfl)⟩
 case stop=>
  rintro D c pre W _ _ h _
  exact h.elim
theorem zH8 (n k c:Int) (w:World) (hne:∀W,Calls Tryz.prog 99 #[.int .i64 n,.int .i64 k] W fun e w'=>e= .returned (.tuple #[.int .i64 2,.nilIface])∧W=w') (hcu:∀W,Calls Tryz.prog 100 #[.int .i64 n,.int .i64 2] W fun e w'=>e= .returned (.tuple #[.int .i64 c,.nilIface])∧W=w') (h0:0≤c) (h1:c<4294967296) (xs:List Int) (hxs:(V.after c [0,0] (V.zbt 2 2)).2=xs):
  Calls Tryz.prog 73 #[.int .i64 n,.int .i64 k] w fun e w'=>e= .returned (.tuple #[.string (strOfNums [2]++strOfNums xs),.nilIface])∧Below w.heap.size w w':=by
 refine (callsIn_wide (n:=4)).1 ?_
 have f1:Fence.wide.fn 99:=trivial
 have f2:Fence.wide.fn 100:=trivial
 have f3:Fence.wide.fn 101:=trivial
 have hmk:=qmk2
 refine callsIn_of_wp_marks Tryz.func73 rfl trivial ?_ rfl
 simp only [Tryz.ntmps73,List.size_toArray,List.length_cons,List.length_nil,Nat.reduceAdd,Nat.reduceSub,Array.replicate_succ,Array.replicate_zero,List.push_toArray,List.append_toArray,List.nil_append,List.cons_append]
 gi_wp2_with (first | (gi_at_call 99;refine (callsIn_wide.2 (hne _)).mono ?_;rintro e w1 ⟨rfl,rfl⟩) | (gi_at_call 100;refine (callsIn_wide.2 (hcu _)).mono ?_;rintro e w1 ⟨rfl,rfl⟩) | (gi_at_call 101;refine (V.zf3 Fence.wide 3 trivial rfl _ _ _ _).mono ?_;rintro e w' ⟨rfl,rfl⟩))
 clear hmk
 obtain ⟨W0,hW0⟩:∃W0,((((w.alloc (.cells #[.int .i64 c] 3)).alloc (.cells #[.int .u8 0,.int .u8 0] 5)).alloc (.cells #[(.slice (some ⟨w.heap.size+1,0,none⟩) 2 2)] 96)).alloc (.cells #[(.slice (some ⟨w.heap.size+1,0,none⟩) 2 2)] 96))=W0:=⟨_,rfl⟩
 have sz:W0.heap.size=w.heap.size+4:=by rw [←hW0];simp
 have bR:Boxed W0 w.heap.size 3 (.int .i64 c):=by rw [←hW0];exact (((Boxed.new w 3 _).alloc _).alloc _).alloc _
 have bB:V.Byt W0 (w.heap.size+1) [0,0]:=by
  rw [←hW0]
  have h:V.Byt ((w.alloc (.cells #[.int .i64 c] 3)).alloc (.cells #[.int .u8 0,.int .u8 0] 5)) (w.heap.size+1) [0,0]:=by
   have:=World.alloc_heap_new (w.alloc (.cells #[.int .i64 c] 3)) (.cells #[.int .u8 0,.int .u8 0] 5)
   rwa [World.size_alloc] at this
  exact (h.alloc _).alloc _
 have bS:Boxed W0 (w.heap.size+1+1) 96 (.slice (some ⟨w.heap.size+1,0,none⟩) 2 2):=by
  rw [←hW0]
  have h:=Boxed.new ((w.alloc (.cells #[.int .i64 c] 3)).alloc (.cells #[.int .u8 0,.int .u8 0] 5)) 96 (.slice (some ⟨w.heap.size+1,0,none⟩) 2 2)
  rw [World.size_alloc,World.size_alloc] at h
  exact h.alloc _
 have bH:Boxed W0 (w.heap.size+1+1+1) 96 (.slice (some ⟨w.heap.size+1,0,none⟩) 2 2):=by
  rw [←hW0]
  have h:=Boxed.new (((w.alloc (.cells #[.int .i64 c] 3)).alloc (.cells #[.int .u8 0,.int .u8 0] 5)).alloc (.cells #[(.slice (some ⟨w.heap.size+1,0,none⟩) 2 2)] 96)) 96 (.slice (some ⟨w.heap.size+1,0,none⟩) 2 2)
  rw [World.size_alloc,World.size_alloc,World.size_alloc] at h
  exact h
 have hB0:Below w.heap.size w W0:=by
  rw [←hW0]
  exact (((((Below.refl _ w).alloc (Nat.le_refl _) _).alloc (by simp<;>omega) _).alloc (by simp<;>omega) _).alloc (by simp<;>omega) _)
 rw [hW0]
 clear hW0
 refine wpIn_rangeFunc_ownG rfl (by decide) (gf:=128) (lb:= #[.pointer (some ⟨w.heap.size+1+1+1,0,none⟩)]) rfl trivial (enters_of Tryz.func128 (by kernel_rfl) rfl)
  (V.zc0 Fence.wide (4-1) trivial rfl (by decide) (w.heap.size+1+1+1) (w.heap.size+1) 2 2 (by decide) W0 (by omega) (by omega) ⟨bH.cell,fun j hj=>⟨_,bB.cell j hj⟩⟩)
  (fun h k hR=>k (h hR)) (V.KpRow.put (w:=W0)) (Below.refl _ _) (fun _=>rfl)
  (fun pre W=>Boxed W w.heap.size 3 (.int .i64 (V.after c [0,0] (pre.map fun x=>x.1.1)).1)∧V.Byt W (w.heap.size+1) (V.after c [0,0] (pre.map fun x=>x.1.1)).2∧Boxed W (w.heap.size+1+1) 96 (.slice (some ⟨w.heap.size+1,0,none⟩) 2 2)∧Boxed W (w.heap.size+1+1+1) 96 (.slice (some ⟨w.heap.size+1,0,none⟩) 2 2)∧Below w.heap.size w W)
  (fun _ _ _=>False)
  (OwnFrom.and (Own.from (boxed_own _ _ _) _) (OwnFrom.and (Own.from (V.Byt.own _ _) _) (OwnFrom.and (Own.from (boxed_own _ _ _) _) (OwnFrom.and (Own.from (boxed_own _ _ _) _) (ownFrom_below (Nat.le_refl _) (by omega))))))
  (fun _ _ _ _ _ hs _ _=>hs)
  ⟨bR,bB,bS,bH,hB0⟩
  (fun x=> {tmps:= #[.int .i64 n,.int .i64 k,undef,undef,.string {data:= #[]},.nilIface,.int .i64 2,.nilIface,.pointer (some ⟨w.heap.size,0,none⟩),.pointer (some ⟨w.heap.size+1+1,0,none⟩),.int .i64 (x.1.1:Int),.tuple #[.int .i64 2,.nilIface],.int .i64 n,.int .i64 k,.tuple #[.int .i64 2,.nilIface],.int .i64 2,.nilIface,.nilIface,.bool false,undef,.tuple #[.int .i64 c,.nilIface],.int .i64 n,.int .i64 2,.tuple #[.int .i64 c,.nilIface],.int .i64 c,.nilIface,.nilIface,.bool false,undef,.int .i64 2,(.slice (some ⟨w.heap.size+1,0,none⟩) 2 2),(.slice (some ⟨w.heap.size+1,0,none⟩) 2 2),.func (.func 128) #[] #[.pointer (some ⟨w.heap.size+1+1+1,0,none⟩)],.int .i64 (x.1.1:Int),.int .u8 x.1.2,undef,undef,undef,undef,undef,undef,undef,undef,undef,undef,undef,undef,undef,undef],defers:= []}) ?assign ?body ?done ?stop
 case assign=>
  intro l x W K hK
  gi_wp2
  exact hK
 case body=>
  rintro l pre ⟨⟨i,v⟩,hx⟩ W ⟨kR,kB,kS,kH,hB⟩ _
  have hx:i<2:=hx
  have hlen:=V.zbq c [0,0] (pre.map fun x=>x.1.1)
  have hbd:=V.zex c [0,0] (pre.map fun x=>x.1.1) h0 h1
  have sn:=V.zc4 c [0,0] (pre.map fun x=>x.1.1) i
  have kc:=kB.cell i (by rw [hlen];exact hx)
  have kf:=kB.frozen i
  have HS:Hid (V.after c [0,0] (pre.map (fun x=>x.1.1)++ [i])=V.step (V.after c [0,0] (pre.map fun x=>x.1.1)) i):=sn
  have HL:Hid ((V.after c [0,0] (pre.map fun x=>x.1.1)).2.length=2):=hlen
  clear sn hlen
  generalize V.after c [0,0] (pre.map fun x=>x.1.1)=st at *
  have kRc:=kR.cell
  have kRf:=kR.frozen
  have kSc:=kS.cell
  obtain ⟨hbd0,hbd1⟩:=hbd
  have g1:((i:Nat):Int)<2:=by omega
  gi_wp2
  have kB':=(kB.set i (st.1%256)).other (B':=w.heap.size) (by omega) (.int .i64 (st.1/256))
  have kR':=(V.Boxed.otherRow (B':=w.heap.size+1) (j:=i) kR (by omega) (.int .u8 (st.1%256))).set (.int .i64 (st.1/256))
  have kS':=(V.Boxed.otherRow (B':=w.heap.size+1) (j:=i) kS (by omega) (.int .u8 (st.1%256))).other (B':=w.heap.size) (by omega) (.int .i64 (st.1/256))
  have kH':=(V.Boxed.otherRow (B':=w.heap.size+1) (j:=i) kH (by omega) (.int .u8 (st.1%256))).other (B':=w.heap.size) (by omega) (.int .i64 (st.1/256))
  have hB':=(hB.setCell (p:=⟨w.heap.size+1,i,none⟩) (by show w.heap.size≤w.heap.size+1;omega) (.int .u8 (st.1%256))).setCell (p:=⟨w.heap.size,0,none⟩) (Nat.le_refl _) (.int .i64 (st.1/256))
  have hL:(st.2.set i (st.1%256)).length=2:=by rw [List.length_set];exact HL.out
  refine ⟨((KeepsOthers.setCell _ _ _).trans (KeepsOthers.setCell _ _ _)).from _,fun _=>⟨kH'.cell,fun j hj=>⟨_,kB'.cell j (by rw [hL];exact hj)⟩⟩,?_,?_,kS',kH',hB'⟩
  ·rw [List.map_append]
   show Boxed _ _ _ (.int .i64 (V.after c [0,0] (pre.map (fun x=>x.1.1)++ [i])).1)
   rw [HS.out];exact kR'
  ·rw [List.map_append]
   show V.Byt _ _ (V.after c [0,0] (pre.map (fun x=>x.1.1)++ [i])).2
   rw [HS.out];exact kB'
 case done=>
  rintro D ys W hD hys ⟨kR,kB,kS,kH,hB⟩ hK
  rw [hys,hxs] at kB
  have hl:xs.length=2:=by rw [←hxs,V.zbq];rfl
  have kB1:=kB.alloc (.cells #[.int .u8 2] 5)
  have hcv:=run_convert_bytes_arg (P:=Tryz.prog) (W.alloc (.cells #[.int .u8 2] 5)) 96 5 Tryz.underlying96 Tryz.underlying5 (w.heap.size+1) 0 2 2 xs hl (fun j hj=>by
   rw [Nat.zero_add,kB1.cell j (by omega)];simp [List.getD]) 9 Tryz.underlying9
  have hc1:=V.zb7 [2] W #[.int .u8 2] rfl
  simp only [List.length_cons,List.length_nil,Nat.reduceAdd] at hc1
  have kSc:=(kS.alloc (.cells #[.int .u8 2] 5)).cell
  have sa:(strOfNums [2]).size+(strOfNums xs).size≤9223372036854775807:=by rw [strOfNums_size,strOfNums_size,hl];simp
  have HL:Hid (xs.length=2):=hl
  have hK2:(W.alloc (.cells #[.int .u8 2] 5)).heap[D]? =some (Obj.deferred (some [])):=(heap_alloc_old W _ (Array.getElem?_eq_some_iff.1 hK).1).trans hK
  clear hl hys kB1
  generalize hsx:strOfNums xs=sx at hcv sa
  generalize hs1:strOfNums [2]=s1 at hc1 sa
  have HX:Hid (strOfNums xs=sx∧strOfNums [2]=s1):=⟨hsx,hs1⟩
  clear hsx hs1
  gi_wp2
  refine ⟨by simp,.inl ⟨_,_,rfl,run_takeDeferred hK2,?_⟩⟩
  exact ⟨_,results_tmp2 rfl _ _ _,by rw [HX.out.1,HX.out.2];rfl,(hB.alloc hB.size _).trans (belowK_b (w:=w) (Nat.le_refl _) _ D _ _ (by omega) hK2 rfl rfl)⟩
 case stop=>
  rintro D c pre W _ _ h _
  exact h.elim
theorem zG4 (n k c:Int) (w:World) (hne:∀W,Calls Tryz.prog 99 #[.int .i64 n,.int .i64 k] W fun e w'=>e= .returned (.tuple #[.int .i64 3,.nilIface])∧W=w') (hcu:∀W,Calls Tryz.prog 100 #[.int .i64 n,.int .i64 3] W fun e w'=>e= .returned (.tuple #[.int .i64 c,.nilIface])∧W=w') (h0:0≤c) (h1:c<4294967296) (xs:List Int) (hxs:(V.after c [0,0,0] (V.zbt 3 3)).2=xs):
  Calls Tryz.prog 73 #[.int .i64 n,.int .i64 k] w fun e w'=>e= .returned (.tuple #[.string (strOfNums [3]++strOfNums xs),.nilIface])∧Below w.heap.size w w':=by
 refine (callsIn_wide (n:=4)).1 ?_
 have f1:Fence.wide.fn 99:=trivial
 have f2:Fence.wide.fn 100:=trivial
 have f3:Fence.wide.fn 101:=trivial
 have hmk:=qmk3
 refine callsIn_of_wp_marks Tryz.func73 rfl trivial ?_ rfl
 simp only [Tryz.ntmps73,List.size_toArray,List.length_cons,List.length_nil,Nat.reduceAdd,Nat.reduceSub,Array.replicate_succ,Array.replicate_zero,List.push_toArray,List.append_toArray,List.nil_append,List.cons_append]
 gi_wp2_with (first | (gi_at_call 99;refine (callsIn_wide.2 (hne _)).mono ?_;rintro e w1 ⟨rfl,rfl⟩) | (gi_at_call 100;refine (callsIn_wide.2 (hcu _)).mono ?_;rintro e w1 ⟨rfl,rfl⟩) | (gi_at_call 101;refine (V.zf3 Fence.wide 3 trivial rfl _ _ _ _).mono ?_;rintro e w' ⟨rfl,rfl⟩))
 clear hmk
 obtain ⟨W0,hW0⟩:∃W0,((((w.alloc (.cells #[.int .i64 c] 3)).alloc (.cells #[.int .u8 0,.int .u8 0,.int .u8 0] 5)).alloc (.cells #[(.slice (some ⟨w.heap.size+1,0,none⟩) 3 3)] 96)).alloc (.cells #[(.slice (some ⟨w.heap.size+1,0,none⟩) 3 3)] 96))=W0:=⟨_,rfl⟩
 have sz:W0.heap.size=w.heap.size+4:=by rw [←hW0];simp
 have bR:Boxed W0 w.heap.size 3 (.int .i64 c):=by rw [←hW0];exact (((Boxed.new w 3 _).alloc _).alloc _).alloc _
 have bB:V.Byt W0 (w.heap.size+1) [0,0,0]:=by
  rw [←hW0]
  have h:V.Byt ((w.alloc (.cells #[.int .i64 c] 3)).alloc (.cells #[.int .u8 0,.int .u8 0,.int .u8 0] 5)) (w.heap.size+1) [0,0,0]:=by
   have:=World.alloc_heap_new (w.alloc (.cells #[.int .i64 c] 3)) (.cells #[.int .u8 0,.int .u8 0,.int .u8 0] 5)
   rwa [World.size_alloc] at this
  exact (h.alloc _).alloc _
 have bS:Boxed W0 (w.heap.size+1+1) 96 (.slice (some ⟨w.heap.size+1,0,none⟩) 3 3):=by
  rw [←hW0]
  have h:=Boxed.new ((w.alloc (.cells #[.int .i64 c] 3)).alloc (.cells #[.int .u8 0,.int .u8 0,.int .u8 0] 5)) 96 (.slice (some ⟨w.heap.size+1,0,none⟩) 3 3)
  rw [World.size_alloc,World.size_alloc] at h
  exact h.alloc _
 have bH:Boxed W0 (w.heap.size+1+1+1) 96 (.slice (some ⟨w.heap.size+1,0,none⟩) 3 3):=by
  rw [←hW0]
  have h:=Boxed.new (((w.alloc (.cells #[.int .i64 c] 3)).alloc (.cells #[.int .u8 0,.int .u8 0,.int .u8 0] 5)).alloc (.cells #[(.slice (some ⟨w.heap.size+1,0,none⟩) 3 3)] 96)) 96 (.slice (some ⟨w.heap.size+1,0,none⟩) 3 3)
  rw [World.size_alloc,World.size_alloc,World.size_alloc] at h
  exact h
 have hB0:Below w.heap.size w W0:=by
  rw [←hW0]
  exact (((((Below.refl _ w).alloc (Nat.le_refl _) _).alloc (by simp<;>omega) _).alloc (by simp<;>omega) _).alloc (by simp<;>omega) _)
 rw [hW0]
 clear hW0
 refine wpIn_rangeFunc_ownG rfl (by decide) (gf:=128) (lb:= #[.pointer (some ⟨w.heap.size+1+1+1,0,none⟩)]) rfl trivial (enters_of Tryz.func128 (by kernel_rfl) rfl)
  (V.zc0 Fence.wide (4-1) trivial rfl (by decide) (w.heap.size+1+1+1) (w.heap.size+1) 3 3 (by decide) W0 (by omega) (by omega) ⟨bH.cell,fun j hj=>⟨_,bB.cell j hj⟩⟩)
  (fun h k hR=>k (h hR)) (V.KpRow.put (w:=W0)) (Below.refl _ _) (fun _=>rfl)
  (fun pre W=>Boxed W w.heap.size 3 (.int .i64 (V.after c [0,0,0] (pre.map fun x=>x.1.1)).1)∧V.Byt W (w.heap.size+1) (V.after c [0,0,0] (pre.map fun x=>x.1.1)).2∧Boxed W (w.heap.size+1+1) 96 (.slice (some ⟨w.heap.size+1,0,none⟩) 3 3)∧Boxed W (w.heap.size+1+1+1) 96 (.slice (some ⟨w.heap.size+1,0,none⟩) 3 3)∧Below w.heap.size w W)
  (fun _ _ _=>False)
  (OwnFrom.and (Own.from (boxed_own _ _ _) _) (OwnFrom.and (Own.from (V.Byt.own _ _) _) (OwnFrom.and (Own.from (boxed_own _ _ _) _) (OwnFrom.and (Own.from (boxed_own _ _ _) _) (ownFrom_below (Nat.le_refl _) (by omega))))))
  (fun _ _ _ _ _ hs _ _=>hs)
  ⟨bR,bB,bS,bH,hB0⟩
  (fun x=> {tmps:= #[.int .i64 n,.int .i64 k,undef,undef,.string {data:= #[]},.nilIface,.int .i64 3,.nilIface,.pointer (some ⟨w.heap.size,0,none⟩),.pointer (some ⟨w.heap.size+1+1,0,none⟩),.int .i64 (x.1.1:Int),.tuple #[.int .i64 3,.nilIface],.int .i64 n,.int .i64 k,.tuple #[.int .i64 3,.nilIface],.int .i64 3,.nilIface,.nilIface,.bool false,undef,.tuple #[.int .i64 c,.nilIface],.int .i64 n,.int .i64 3,.tuple #[.int .i64 c,.nilIface],.int .i64 c,.nilIface,.nilIface,.bool false,undef,.int .i64 3,(.slice (some ⟨w.heap.size+1,0,none⟩) 3 3),(.slice (some ⟨w.heap.size+1,0,none⟩) 3 3),.func (.func 128) #[] #[.pointer (some ⟨w.heap.size+1+1+1,0,none⟩)],.int .i64 (x.1.1:Int),.int .u8 x.1.2,undef,undef,undef,undef,undef,undef,undef,undef,undef,undef,undef,undef,undef,undef],defers:= []}) ?assign ?body ?done ?stop
 case assign=>
  intro l x W K hK
  gi_wp2
  exact hK
 case body=>
  rintro l pre ⟨⟨i,v⟩,hx⟩ W ⟨kR,kB,kS,kH,hB⟩ _
  have hx:i<3:=hx
  have hlen:=V.zbq c [0,0,0] (pre.map fun x=>x.1.1)
  have hbd:=V.zex c [0,0,0] (pre.map fun x=>x.1.1) h0 h1
  have sn:=V.zc4 c [0,0,0] (pre.map fun x=>x.1.1) i
  have kc:=kB.cell i (by rw [hlen];exact hx)
  have kf:=kB.frozen i
  have HS:Hid (V.after c [0,0,0] (pre.map (fun x=>x.1.1)++ [i])=V.step (V.after c [0,0,0] (pre.map fun x=>x.1.1)) i):=sn
  have HL:Hid ((V.after c [0,0,0] (pre.map fun x=>x.1.1)).2.length=3):=hlen
  clear sn hlen
  generalize V.after c [0,0,0] (pre.map fun x=>x.1.1)=st at *
  have kRc:=kR.cell
  have kRf:=kR.frozen
  have kSc:=kS.cell
  obtain ⟨hbd0,hbd1⟩:=hbd
  have g1:((i:Nat):Int)<3:=by omega
  gi_wp2
  have kB':=(kB.set i (st.1%256)).other (B':=w.heap.size) (by omega) (.int .i64 (st.1/256))
  have kR':=(V.Boxed.otherRow (B':=w.heap.size+1) (j:=i) kR (by omega) (.int .u8 (st.1%256))).set (.int .i64 (st.1/256))
  have kS':=(V.Boxed.otherRow (B':=w.heap.size+1) (j:=i) kS (by omega) (.int .u8 (st.1%256))).other (B':=w.heap.size) (by omega) (.int .i64 (st.1/256))
  have kH':=(V.Boxed.otherRow (B':=w.heap.size+1) (j:=i) kH (by omega) (.int .u8 (st.1%256))).other (B':=w.heap.size) (by omega) (.int .i64 (st.1/256))
  have hB':=(hB.setCell (p:=⟨w.heap.size+1,i,none⟩) (by show w.heap.size≤w.heap.size+1;omega) (.int .u8 (st.1%256))).setCell (p:=⟨w.heap.size,0,none⟩) (Nat.le_refl _) (.int .i64 (st.1/256))
  have hL:(st.2.set i (st.1%256)).length=3:=by rw [List.length_set];exact HL.out
  refine ⟨((KeepsOthers.setCell _ _ _).trans (KeepsOthers.setCell _ _ _)).from _,fun _=>⟨kH'.cell,fun j hj=>⟨_,kB'.cell j (by rw [hL];exact hj)⟩⟩,?_,?_,kS',kH',hB'⟩
  ·rw [List.map_append]
   show Boxed _ _ _ (.int .i64 (V.after c [0,0,0] (pre.map (fun x=>x.1.1)++ [i])).1)
   rw [HS.out];exact kR'
  ·rw [List.map_append]
   show V.Byt _ _ (V.after c [0,0,0] (pre.map (fun x=>x.1.1)++ [i])).2
   rw [HS.out];exact kB'
 case done=>
  rintro D ys W hD hys ⟨kR,kB,kS,kH,hB⟩ hK
  rw [hys,hxs] at kB
  have hl:xs.length=3:=by rw [←hxs,V.zbq];rfl
  have kB1:=kB.alloc (.cells #[.int .u8 3] 5)
  have hcv:=run_convert_bytes_arg (P:=Tryz.prog) (W.alloc (.cells #[.int .u8 3] 5)) 96 5 Tryz.underlying96 Tryz.underlying5 (w.heap.size+1) 0 3 3 xs hl (fun j hj=>by
   rw [Nat.zero_add,kB1.cell j (by omega)];simp [List.getD]) 9 Tryz.underlying9
  have hc1:=V.zb7 [3] W #[.int .u8 3] rfl
  simp only [List.length_cons,List.length_nil,Nat.reduceAdd] at hc1
  have kSc:=(kS.alloc (.cells #[.int .u8 3] 5)).cell
  have sa:(strOfNums [3]).size+(strOfNums xs).size≤9223372036854775807:=by rw [strOfNums_size,strOfNums_size,hl];simp
  have HL:Hid (xs.length=3):=hl
  have hK2:(W.alloc (.cells #[.int .u8 3] 5)).heap[D]? =some (Obj.deferred (some [])):=(heap_alloc_old W _ (Array.getElem?_eq_some_iff.1 hK).1).trans hK
  clear hl hys kB1
  generalize hsx:strOfNums xs=sx at hcv sa
  generalize hs1:strOfNums [3]=s1 at hc1 sa
  have HX:Hid (strOfNums xs=sx∧strOfNums [3]=s1):=⟨hsx,hs1⟩
  clear hsx hs1
  gi_wp2
  refine ⟨by simp,.inl ⟨_,_,rfl,run_takeDeferred hK2,?_⟩⟩
  exact ⟨_,results_tmp2 rfl _ _ _,by rw [HX.out.1,HX.out.2];rfl,(hB.alloc hB.size _).trans (belowK_b (w:=w) (Nat.le_refl _) _ D _ _ (by omega) hK2 rfl rfl)⟩
 case stop=>
  rintro D c pre W _ _ h _
  exact h.elim
theorem zIa (n k c:Int) (w:World) (hne:∀W,Calls Tryz.prog 99 #[.int .i64 n,.int .i64 k] W fun e w'=>e= .returned (.tuple #[.int .i64 4,.nilIface])∧W=w') (hcu:∀W,Calls Tryz.prog 100 #[.int .i64 n,.int .i64 4] W fun e w'=>e= .returned (.tuple #[.int .i64 c,.nilIface])∧W=w') (h0:0≤c) (h1:c<4294967296) (xs:List Int) (hxs:(V.after c [0,0,0,0] (V.zbt 4 4)).2=xs):
  Calls Tryz.prog 73 #[.int .i64 n,.int .i64 k] w fun e w'=>e= .returned (.tuple #[.string (strOfNums [4]++strOfNums xs),.nilIface])∧Below w.heap.size w w':=by
 refine (callsIn_wide (n:=4)).1 ?_
 have f1:Fence.wide.fn 99:=trivial
 have f2:Fence.wide.fn 100:=trivial
 have f3:Fence.wide.fn 101:=trivial
 have hmk:=qmk4
 refine callsIn_of_wp_marks Tryz.func73 rfl trivial ?_ rfl
 simp only [Tryz.ntmps73,List.size_toArray,List.length_cons,List.length_nil,Nat.reduceAdd,Nat.reduceSub,Array.replicate_succ,Array.replicate_zero,List.push_toArray,List.append_toArray,List.nil_append,List.cons_append]
 gi_wp2_with (first | (gi_at_call 99;refine (callsIn_wide.2 (hne _)).mono ?_;rintro e w1 ⟨rfl,rfl⟩) | (gi_at_call 100;refine (callsIn_wide.2 (hcu _)).mono ?_;rintro e w1 ⟨rfl,rfl⟩) | (gi_at_call 101;refine (V.zf3 Fence.wide 3 trivial rfl _ _ _ _).mono ?_;rintro e w' ⟨rfl,rfl⟩))
 clear hmk
 obtain ⟨W0,hW0⟩:∃W0,((((w.alloc (.cells #[.int .i64 c] 3)).alloc (.cells #[.int .u8 0,.int .u8 0,.int .u8 0,.int .u8 0] 5)).alloc (.cells #[(.slice (some ⟨w.heap.size+1,0,none⟩) 4 4)] 96)).alloc (.cells #[(.slice (some ⟨w.heap.size+1,0,none⟩) 4 4)] 96))=W0:=⟨_,rfl⟩
 have sz:W0.heap.size=w.heap.size+4:=by rw [←hW0];simp
 have bR:Boxed W0 w.heap.size 3 (.int .i64 c):=by rw [←hW0];exact (((Boxed.new w 3 _).alloc _).alloc _).alloc _
 have bB:V.Byt W0 (w.heap.size+1) [0,0,0,0]:=by
  rw [←hW0]
  have h:V.Byt ((w.alloc (.cells #[.int .i64 c] 3)).alloc (.cells #[.int .u8 0,.int .u8 0,.int .u8 0,.int .u8 0] 5)) (w.heap.size+1) [0,0,0,0]:=by
   have:=World.alloc_heap_new (w.alloc (.cells #[.int .i64 c] 3)) (.cells #[.int .u8 0,.int .u8 0,.int .u8 0,.int .u8 0] 5)
   rwa [World.size_alloc] at this
  exact (h.alloc _).alloc _
 have bS:Boxed W0 (w.heap.size+1+1) 96 (.slice (some ⟨w.heap.size+1,0,none⟩) 4 4):=by
  rw [←hW0]
  have h:=Boxed.new ((w.alloc (.cells #[.int .i64 c] 3)).alloc (.cells #[.int .u8 0,.int .u8 0,.int .u8 0,.int .u8 0] 5)) 96 (.slice (some ⟨w.heap.size+1,0,none⟩) 4 4)
  rw [World.size_alloc,World.size_alloc] at h
  exact h.alloc _
 have bH:Boxed W0 (w.heap.size+1+1+1) 96 (.slice (some ⟨w.heap.size+1,0,none⟩) 4 4):=by
  rw [←hW0]
  have h:=Boxed.new (((w.alloc (.cells #[.int .i64 c] 3)).alloc (.cells #[.int .u8 0,.int .u8 0,.int .u8 0,.int .u8 0] 5)).alloc (.cells #[(.slice (some ⟨w.heap.size+1,0,none⟩) 4 4)] 96)) 96 (.slice (some ⟨w.heap.size+1,0,none⟩) 4 4)
  rw [World.size_alloc,World.size_alloc,World.size_alloc] at h
  exact h
 have hB0:Below w.heap.size w W0:=by
  rw [←hW0]
  exact (((((Below.refl _ w).alloc (Nat.le_refl _) _).alloc (by simp<;>omega) _).alloc (by simp<;>omega) _).alloc (by simp<;>omega) _)
 rw [hW0]
 clear hW0
 refine wpIn_rangeFunc_ownG rfl (by decide) (gf:=128) (lb:= #[.pointer (some ⟨w.heap.size+1+1+1,0,none⟩)]) rfl trivial (enters_of Tryz.func128 (by kernel_rfl) rfl)
  (V.zc0 Fence.wide (4-1) trivial rfl (by decide) (w.heap.size+1+1+1) (w.heap.size+1) 4 4 (by decide) W0 (by omega) (by omega) ⟨bH.cell,fun j hj=>⟨_,bB.cell j hj⟩⟩)
  (fun h k hR=>k (h hR)) (V.KpRow.put (w:=W0)) (Below.refl _ _) (fun _=>rfl)
  (fun pre W=>Boxed W w.heap.size 3 (.int .i64 (V.after c [0,0,0,0] (pre.map fun x=>x.1.1)).1)∧V.Byt W (w.heap.size+1) (V.after c [0,0,0,0] (pre.map fun x=>x.1.1)).2∧Boxed W (w.heap.size+1+1) 96 (.slice (some ⟨w.heap.size+1,0,none⟩) 4 4)∧Boxed W (w.heap.size+1+1+1) 96 (.slice (some ⟨w.heap.size+1,0,none⟩) 4 4)∧Below w.heap.size w W)
  (fun _ _ _=>False)
  (OwnFrom.and (Own.from (boxed_own _ _ _) _) (OwnFrom.and (Own.from (V.Byt.own _ _) _) (OwnFrom.and (Own.from (boxed_own _ _ _) _) (OwnFrom.and (Own.from (boxed_own _ _ _) _) (ownFrom_below (Nat.le_refl _) (by omega))))))
  (fun _ _ _ _ _ hs _ _=>hs)
  ⟨bR,bB,bS,bH,hB0⟩
  (fun x=> {tmps:= #[.int .i64 n,.int .i64 k,undef,undef,.string {data:= #[]},.nilIface,.int .i64 4,.nilIface,.pointer (some ⟨w.heap.size,0,none⟩),.pointer (some ⟨w.heap.size+1+1,0,none⟩),.int .i64 (x.1.1:Int),.tuple #[.int .i64 4,.nilIface],.int .i64 n,.int .i64 k,.tuple #[.int .i64 4,.nilIface],.int .i64 4,.nilIface,.nilIface,.bool false,undef,.tuple #[.int .i64 c,.nilIface],.int .i64 n,.int .i64 4,.tuple #[.int .i64 c,.nilIface],.int .i64 c,.nilIface,.nilIface,.bool false,undef,.int .i64 4,(.slice (some ⟨w.heap.size+1,0,none⟩) 4 4),(.slice (some ⟨w.heap.size+1,0,none⟩) 4 4),.func (.func 128) #[] #[.pointer (some ⟨w.heap.size+1+1+1,0,none⟩)],.int .i64 (x.1.1:Int),.int .u8 x.1.2,undef,undef,undef,undef,undef,undef,undef,undef,undef,undef,undef,undef,undef,undef],defers:= []}) ?assign ?body ?done ?stop
 case assign=>
  intro l x W K hK
  gi_wp2
  exact hK
 case body=>
  rintro l pre ⟨⟨i,v⟩,hx⟩ W ⟨kR,kB,kS,kH,hB⟩ _
  have hx:i<4:=hx
  have hlen:=V.zbq c [0,0,0,0] (pre.map fun x=>x.1.1)
  have hbd:=V.zex c [0,0,0,0] (pre.map fun x=>x.1.1) h0 h1
  have sn:=V.zc4 c [0,0,0,0] (pre.map fun x=>x.1.1) i
  have kc:=kB.cell i (by rw [hlen];exact hx)
  have kf:=kB.frozen i
  have HS:Hid (V.after c [0,0,0,0] (pre.map (fun x=>x.1.1)++ [i])=V.step (V.after c [0,0,0,0] (pre.map fun x=>x.1.1)) i):=sn
  have HL:Hid ((V.after c [0,0,0,0] (pre.map fun x=>x.1.1)).2.length=4):=hlen
  clear sn hlen
  generalize V.after c [0,0,0,0] (pre.map fun x=>x.1.1)=st at *
  have kRc:=kR.cell
  have kRf:=kR.frozen
  have kSc:=kS.cell
  obtain ⟨hbd0,hbd1⟩:=hbd
  have g1:((i:Nat):Int)<4:=by omega
  gi_wp2
  have kB':=(kB.set i (st.1%256)).other (B':=w.heap.size) (by omega) (.int .i64 (st.1/256))
  have kR':=(V.Boxed.otherRow (B':=w.heap.size+1) (j:=i) kR (by omega) (.int .u8 (st.1%256))).set (.int .i64 (st.1/256))
  have kS':=(V.Boxed.otherRow (B':=w.heap.size+1) (j:=i) kS (by omega) (.int .u8 (st.1%256))).other (B':=w.heap.size) (by omega) (.int .i64 (st.1/256))
  have kH':=(V.Boxed.otherRow (B':=w.heap.size+1) (j:=i) kH (by omega) (.int .u8 (st.1%256))).other (B':=w.heap.size) (by omega) (.int .i64 (st.1/256))
  have hB':=(hB.setCell (p:=⟨w.heap.size+1,i,none⟩) (by show w.heap.size≤w.heap.size+1;omega) (.int .u8 (st.1%256))).setCell (p:=⟨w.heap.size,0,none⟩) (Nat.le_refl _) (.int .i64 (st.1/256))
  have hL:(st.2.set i (st.1%256)).length=4:=by rw [List.length_set];exact HL.out
  refine ⟨((KeepsOthers.setCell _ _ _).trans (KeepsOthers.setCell _ _ _)).from _,fun _=>⟨kH'.cell,fun j hj=>⟨_,kB'.cell j (by rw [hL];exact hj)⟩⟩,?_,?_,kS',kH',hB'⟩
  ·rw [List.map_append]
   show Boxed _ _ _ (.int .i64 (V.after c [0,0,0,0] (pre.map (fun x=>x.1.1)++ [i])).1)
   rw [HS.out];exact kR'
  ·rw [List.map_append]
   show V.Byt _ _ (V.after c [0,0,0,0] (pre.map (fun x=>x.1.1)++ [i])).2
   rw [HS.out];exact kB'
 case done=>
  rintro D ys W hD hys ⟨kR,kB,kS,kH,hB⟩ hK
  rw [hys,hxs] at kB
  have hl:xs.length=4:=by rw [←hxs,V.zbq];rfl
  have kB1:=kB.alloc (.cells #[.int .u8 4] 5)
  have hcv:=run_convert_bytes_arg (P:=Tryz.prog) (W.alloc (.cells #[.int .u8 4] 5)) 96 5 Tryz.underlying96 Tryz.underlying5 (w.heap.size+1) 0 4 4 xs hl (fun j hj=>by
   rw [Nat.zero_add,kB1.cell j (by omega)];simp [List.getD]) 9 Tryz.underlying9
  have hc1:=V.zb7 [4] W #[.int .u8 4] rfl
  simp only [List.length_cons,List.length_nil,Nat.reduceAdd] at hc1
  have kSc:=(kS.alloc (.cells #[.int .u8 4] 5)).cell
  have sa:(strOfNums [4]).size+(strOfNums xs).size≤9223372036854775807:=by rw [strOfNums_size,strOfNums_size,hl];simp
  have HL:Hid (xs.length=4):=hl
  have hK2:(W.alloc (.cells #[.int .u8 4] 5)).heap[D]? =some (Obj.deferred (some [])):=(heap_alloc_old W _ (Array.getElem?_eq_some_iff.1 hK).1).trans hK
  clear hl hys kB1
  generalize hsx:strOfNums xs=sx at hcv sa
  generalize hs1:strOfNums [4]=s1 at hc1 sa
  have HX:Hid (strOfNums xs=sx∧strOfNums [4]=s1):=⟨hsx,hs1⟩
  clear hsx hs1
  gi_wp2
  refine ⟨by simp,.inl ⟨_,_,rfl,run_takeDeferred hK2,?_⟩⟩
  exact ⟨_,results_tmp2 rfl _ _ _,by rw [HX.out.1,HX.out.2];rfl,(hB.alloc hB.size _).trans (belowK_b (w:=w) (Nat.le_refl _) _ D _ _ (by omega) hK2 rfl rfl)⟩
 case stop=>
  rintro D c pre W _ _ h _
  exact h.elim
theorem zEf (n:Int) (h:0≤n):(V.after (n%256) [0] (V.zbt 1 1)).2=numB n 1:=by
 simp [V.after,V.step,V.zbt,numB,List.range_succ]
theorem zFt (n:Int) (h:0≤n):(V.after (n%65536) [0,0] (V.zbt 2 2)).2=numB n 2:=by
 simp [V.after,V.step,V.zbt,numB,List.range_succ]<;>omega
theorem zEu (n:Int) (h:0≤n):(V.after (n%16777216) [0,0,0] (V.zbt 3 3)).2=numB n 3:=by
 simp [V.after,V.step,V.zbt,numB,List.range_succ]<;>omega
theorem zGn (n:Int) (h:0≤n):(V.after (n%4294967296) [0,0,0,0] (V.zbt 4 4)).2=numB n 4:=by
 simp [V.after,V.step,V.zbt,numB,List.range_succ]<;>omega
theorem zfd (n k:Int) (w:World) (h:U.zc8 n k=true):Calls Tryz.prog 73 #[.int .i64 n,.int .i64 k] w fun e w'=>e= .returned (.tuple #[.string (pkN n k),.nilIface])∧Below w.heap.size w w':=by
 obtain ⟨n0,n1,_⟩:=U.zb3 h
 have hm:U.mayB n=true:=(U.zas n).2 ⟨n0,n1⟩
 have hn:∀W,Calls Tryz.prog 99 #[.int .i64 n,.int .i64 k] W fun e w'=>e= .returned (.tuple #[.int .i64 (U.need n k),.nilIface])∧W=w':=fun W=>(U.zz4 n k W h).mono fun e w' hh=>⟨hh.1,hh.2.symm⟩
 have hc:∀W,Calls Tryz.prog 100 #[.int .i64 n,.int .i64 (U.need n k)] W fun e w'=>e= .returned (.tuple #[.int .i64 (n%U.rnd (U.need n k)),.nilIface])∧W=w':=fun W=>(U.zD1 n (U.need n k) W hm (U.zdm n k)).mono fun e w' hh=>⟨hh.1,hh.2.symm⟩
 unfold pkN
 rcases U.zbz (U.zdm n k) with e | e | e | e
 ·rw [e] at hn hc ⊢
  exact zH2 n k _ w hn hc (by rw [U.zEe];omega) (by rw [U.zEe];omega) _ (by rw [U.zEe];exact zEf n n0)
 ·rw [e] at hn hc ⊢
  exact zH8 n k _ w hn hc (by rw [U.zFi];omega) (by rw [U.zFi];omega) _ (by rw [U.zFi];exact zFt n n0)
 ·rw [e] at hn hc ⊢
  exact zG4 n k _ w hn hc (by rw [U.zD7];omega) (by rw [U.zD7];omega) _ (by rw [U.zD7];exact zEu n n0)
 ·rw [e] at hn hc ⊢
  exact zIa n k _ w hn hc (by rw [U.zFr];omega) (by rw [U.zFr];omega) _ (by rw [U.zFr];exact zGn n n0)
theorem zqg (n k:Int) (w:World) (h:U.zc8 n k=false):Calls Tryz.prog 73 #[.int .i64 n,.int .i64 k] w fun e w'=>e= .returned (.tuple #[.string {data:= #[]},errV 1])∧Below w.heap.size w w':=by
 have HN:=fun W=>U.zEv n k W h
 rw [zCm]
 clear h
 go_enter Tryz.func73,Tryz.ntmps73
 go_wp2_with (first | (go_at_call 99;refine (HN _).mono ?_;rintro e w1 ⟨rfl,rfl⟩))
 go_ret2
 exact ⟨rfl,Below.refl _ _⟩
end Go.Proofs.YtdnehibcpkjafaaGreatDoor
namespace Go.Proofs.YtdnehibcpkjafaaGreatDoor
open Go.RowKit Go.Lib Go.Sort
theorem zqc (a b:ByteArray):strCells (a++b)=strCells a++strCells b:=by
 have e:a++b=strOfNums (V.ints a++V.ints b):=by rw [←V.zce];exact (V.ze0 (a++b)).symm
 have ea:strOfNums (V.ints a)=a:=V.ze0 a
 have eb:strOfNums (V.ints b)=b:=V.ze0 b
 rw [e,V.zih,ea,eb]
def pfF (l:List F):Int:=if l.length=0 then 5 else if 12<l.length then 4 else fsF l
theorem zBn (ao:Option Addr) (c:Nat) (w:World):Calls Tryz.prog 74 #[.slice ao 0 c] w fun e w'=>e= .returned (.tuple #[.string {data:= #[]},.iface 78 (.int .i64 5)])∧Below w.heap.size w w':=by
 go_enter Tryz.func74,Tryz.ntmps74
 go_wp2_with fail
 go_ret2
 exact ⟨rfl,Below.refl _ _⟩
theorem zAw (ao:Option Addr) (m c:Nat) (w:World) (h:12<m) (hl:m≤9223372036854775807):Calls Tryz.prog 74 #[.slice ao m c] w fun e w'=>e= .returned (.tuple #[.string {data:= #[]},.iface 78 (.int .i64 4)])∧Below w.heap.size w w':=by
 have h0:¬(m:Int)=0:=by omega
 have h1:(12:Int)<(m:Int):=by omega
 go_enter Tryz.func74,Tryz.ntmps74
 go_wp2_with fail
 go_ret2
 exact ⟨rfl,Below.refl _ _⟩
theorem zrp (b off len c:Nat) (l:List F) (w:World) (hF:V.Forms w) (hC:Cnts w) (hlen:l.length=len) (h0:1≤len) (h12:len≤12) (hb:b<w.heap.size) (hc:FCells w b off l):
  Calls Tryz.prog 74 #[.slice (some ⟨b,off,none⟩) len c] w fun e w'=>((fsF l=0∧e= .returned (.tuple #[.string (fsS l),.nilIface]))∨(fsF l≠0∧e= .returned (.tuple #[.string {data:= #[]},errV (fsF l)])))∧Below w.heap.size w w':=by
 obtain ⟨i0,hi,hz0,hz1,hz2⟩:=info_parts V.info5
 have g0:¬(len:Int)=0:=by omega
 have g12:¬(12:Int)<(len:Int):=by omega
 have HL:Hid (l.length=len):=hlen
 have HC:Hid (FCells w b off l):=hc
 have HV:Hid (V.Forms w∧Cnts w):=⟨hF,hC⟩
 clear hlen hc hF hC
 go_enter Tryz.func74,Tryz.ntmps74
 go_wp2_with fail
 go_loopw [4,21] (fun t i wr=>∃k:Nat,k≤len∧i= .int .i64 k∧wr.ownsRow w.heap.size 5 1 t (fsS (l.take k)).size (strCells (fsS (l.take k)))∧Hid (∀j,j<k→fF (fat l j)=0)∧Below w.heap.size w wr) (fun _ i _=>len-(intOf i).toNat)
 case atStart=>exact ⟨0,Nat.zero_le _,rfl,World.ownsRow_nil _ _ _ _,(fun j hj=>absurd hj (Nat.not_lt_zero _)),Below.refl _ _⟩
 case round=>
  obtain ⟨k,hk,rfl,hown,hall,hB⟩:=hrel
  by_cases hlt:k<len
  ·have hkl:k<l.length:=by have:=HL.out;omega
   obtain ⟨u,x0,x1,x2,r,hd⟩:=HC.out.below hb hB k hkl
   have g1:(k:Int)<(len:Int):=by omega
   have hsz1:(fsS (l.take k)).size≤1452:=by
    have hh:∀j,j<(l.take k).length→fF (fat (l.take k) j)=0:=fun j hj=>by
     rw [List.length_take] at hj
     have:=hall.out j (by omega)
     rwa [show fat (l.take k) j=fat l j by simp [fat,List.getElem?_take,show j<k by omega]]
    have:=zmt hh (l.take k).length (Nat.le_refl _)
    rw [List.take_length,List.length_take] at this
    omega
   have HN:Hid (fsS (l.take (k+1))=fsS (l.take k)++fS (fat l k)):=zm2 hkl
   have HAT:Hid (fF (fat l k)≠0→fsF l=fF (fat l k)):=fun hn=>zw7 l k hkl hall.out hn
   have HAL:Hid (fF (fat l k)=0→∀j,j<k+1→fF (fat l j)=0):=fun he j hj=>by
    by_cases e:j=k
    ·rw [e];exact he
    ·exact hall.out j (by omega)
   have hV1:V.Forms wr∧Cnts wr:=⟨HV.out.1.below hB,HV.out.2.below hB⟩
   clear hkl hall
   generalize fat l k=f at *
   obtain ⟨kk,ns,d⟩:=f
   simp only at x0 x1 x2 r hd
   have bel1:Below wr.heap.size wr (wr.alloc (.cells #[.int .i64 kk,u,.string d] 114)):=(Below.refl _ wr).alloc (Nat.le_refl _) _
   have hlb:b<wr.heap.size:=Nat.lt_of_lt_of_le hb hB.size
   by_cases hz:fF (kk,ns,d)=0
   ·have HP:=zkr kk u d ns _ (hV1.2.below bel1) (hV1.1.below bel1) (r.below bel1) hz
    have hs2:(frS kk ns d).size≤121:=zlz hz
    have HA1:Hid (∀j,j<k+1→fF (fat l j)=0):=HAL.out hz
    obtain ⟨au,cu,hu,_⟩:=id r
    subst hu
    have hB1:Below w.heap.size w (wr.alloc (.cells #[.int .i64 kk,.slice au ns.length cu,.string d] 114)):=hB.alloc hB.size _
    have hown1:=own_below hown bel1
    have HNs:Hid (fsS (l.take (k+1))=fsS (l.take k)++frS kk ns d):=HN.out
    clear hz HAL HAT HN r hV1 hown
    generalize frS kk ns d=sz at *
    generalize fsS (l.take k)=so at *
    generalize ns.length=nn at *
    go_wp2_with fail
    refine HP.mono ?_
    rintro e w1 ⟨rfl,hb1⟩
    have hB2:=hB1.trans (hb1.mono hB1.size)
    have hown2:=own_below hown1 hb1
    have hbs:=hB2.size
    clear HP hown1 hB1
    go_wp2_with (at_builtin;refine wpList_append_own_string _ rfl _ _ 96 9 rfl w.heap.size 5 i0 Tryz.underlying96 Tryz.underlying9 hi hz0 hz1 hz2 _ _ _ rfl hown2 _ rfl (by unfold maxLen;omega) (by omega) hbs ?_;intro v' w2 hown3 hg2 _)
    have hg3:w1.grownBy w2 u4.ownBlock:=hg2
    have hB3:Below w.heap.size w w2:=hB2.grown hg3 hbs (fun j e=>(hown2.lt j e).1)
    exact ⟨⟨k+1,by omega,by go_num,by rw [HNs.out,zqc,ByteArray.size_append];exact hown3,HA1,hB3⟩,by simp [intOf];omega⟩
   ·have HP:=zks kk u d ns _ (hV1.2.below bel1) (r.below bel1) hd hz
    have HE:Hid (fsF l=fF (kk,ns,d)):=HAT.out hz
    have HZ:Hid (fF (kk,ns,d)≠0):=hz
    have hE:errV (frF kk ns d)= .iface 78 (.int .i64 (frF kk ns d)):=by
     have:frF kk ns d≠0:=hz
     simp [errV,this]
    rw [hE] at HP
    have HEV:Hid (errV (fsF l)= .iface 78 (.int .i64 (frF kk ns d))):=by
     show _=_
     rw [HE.out];exact hE
    obtain ⟨au,cu,hu,_⟩:=id r
    subst hu
    have hB1:Below w.heap.size w (wr.alloc (.cells #[.int .i64 kk,.slice au ns.length cu,.string d] 114)):=hB.alloc hB.size _
    clear hz HAL HAT HN r hV1 hown hE
    generalize frF kk ns d=ff at HP HEV
    generalize ns.length=nn at *
    go_wp2_with fail
    refine HP.mono ?_
    rintro e w1 ⟨rfl,hb1⟩
    have hB2:=hB1.trans (hb1.mono hB1.size)
    go_wp2_with fail
    go_ret2
    exact ⟨.inr ⟨by rw [HE.out];exact HZ.out,by rw [HEV.out];rfl⟩,hB2⟩
  ·obtain rfl:k=len:=by omega
   have hcv:=V.zhk hown
   have e1:l.take k=l:=List.take_of_length_le (by have:=HL.out;omega)
   rw [e1] at hcv
   have HZ:Hid (fsF l=0):=zrc l (fun j hj=>hall.out j (by have:=HL.out;omega))
   clear hown e1
   go_wp2_with fail
   go_ret2
   exact ⟨.inl ⟨HZ.out,rfl⟩,hB⟩
theorem zv3 (v:Value) (l:List F) (w:World) (hF:V.Forms w) (hC:Cnts w) (hR:FRow w v l) (h:pfF l=0):Calls Tryz.prog 74 #[v] w fun e w'=>e= .returned (.tuple #[.string (fsS l),.nilIface])∧Below w.heap.size w w':=by
 unfold pfF at h
 obtain ⟨ao,c,rfl,hl,hn,hz⟩:=hR
 split at h
 ·cases h
 ·rename_i h0
  split at h
  ·cases h
  ·rename_i h1
   rcases hz with e | ⟨b,off,rfl,hb,hc⟩
   ·rw [e] at h0;exact absurd rfl h0
   ·refine (zrp b off _ c l w hF hC rfl (by omega) (by omega) hb hc).mono ?_
    rintro e w' ⟨⟨_,rfl⟩ | ⟨hh,_⟩,hb⟩
    ·exact ⟨rfl,hb⟩
    ·exact absurd h hh
theorem zGq (v:Value) (l:List F) (w:World) (hF:V.Forms w) (hC:Cnts w) (hR:FRow w v l) (h:pfF l≠0):Calls Tryz.prog 74 #[v] w fun e w'=>e= .returned (.tuple #[.string {data:= #[]},errV (pfF l)])∧Below w.heap.size w w':=by
 obtain ⟨ao,c,rfl,hl,hn,hz⟩:=hR
 by_cases h0:l.length=0
 ·rw [show pfF l=5 by simp only [pfF,if_pos h0],h0]
  exact zBn ao c w
 ·by_cases h1:12<l.length
  ·rw [show pfF l=4 by simp only [pfF,if_neg h0,if_pos h1]]
   exact zAw ao _ c w h1 hl
  ·rw [show pfF l=fsF l by simp only [pfF,if_neg h0,if_neg h1]] at h ⊢
   rcases hz with e | ⟨b,off,rfl,hb,hc⟩
   ·rw [e] at h0;exact absurd rfl h0
   ·refine (zrp b off _ c l w hF hC rfl (by omega) (by omega) hb hc).mono ?_
    rintro e w' ⟨⟨hh,_⟩ | ⟨_,rfl⟩,hb⟩
    ·exact absurd hh h
    ·exact ⟨rfl,hb⟩
theorem zGt (n k:Int) (l:List F) (h:U.zc8 n k=true):pkF n k l=if pfF l≠0 then pfF l else if 200<(pkS n k l).size then 4 else 0:=by
 unfold pkF pfF
 rw [if_neg (by rw [h];decide)]
 by_cases h0:l.length=0
 ·simp [h0]
 ·by_cases h1:12<l.length
  ·simp [h0,h1]
  ·simp only [if_neg h0,if_neg h1]
theorem zD4 {l:List F} (h:pfF l=0):fsF l=0∧1≤l.length∧l.length≤12:=by
 unfold pfF at h
 split at h
 ·cases h
 ·split at h
  ·cases h
  ·exact ⟨h,by omega,by omega⟩
theorem zry {n k:Int} {l:List F} (h:pfF l=0):(pkN n k).size≤5∧(fsS l).size≤1452:=by
 constructor
 ·rw [←zaa,ziz,List.length_cons]
  have:=zf2 (n:=n) (U.zdm n k)
  have:=U.zbz (U.zdm n k)
  omega
 ·obtain ⟨h1,h2,h3⟩:=zD4 h
  have:=zmt (zmh l h1) l.length (Nat.le_refl _)
  rw [List.take_length] at this
  omega
theorem zqf (n k:Int) (ao:Option Addr) (m c:Nat) (w:World) (h:U.zc8 n k=false):
  Calls Tryz.prog 46 #[.int .i64 n,.int .i64 k,.slice ao m c] w fun e w'=>e= .returned (.tuple #[.string {data:= #[]},.iface 78 (.int .i64 1)])∧Below w.heap.size w w':=by
 have HN:=zqg n k w h
 rw [zCm] at HN
 clear h
 go_enter Tryz.func46,Tryz.ntmps46
 go_wp2_with (first | (go_at_call 73;refine HN.mono ?_;rintro e w1 ⟨rfl,hb1⟩))
 go_ret2
 exact ⟨rfl,hb1⟩
theorem zp0 (n k:Int) (v:Value) (l:List F) (w:World) (hF:V.Forms w) (hC:Cnts w) (hR:FRow w v l) (h:U.zc8 n k=true) (h1:pfF l≠0):
  Calls Tryz.prog 46 #[.int .i64 n,.int .i64 k,v] w fun e w'=>e= .returned (.tuple #[.string {data:= #[]},errV (pfF l)])∧Below w.heap.size w w':=by
 have HN:=zfd n k w h
 have HP:=fun W (hb:Below w.heap.size w W)=>zGq v l W (hF.below hb) (hC.below hb) (hR.below hb) h1
 rw [show errV (pfF l)= .iface 78 (.int .i64 (pfF l)) by simp [errV,h1]] at HP ⊢
 obtain ⟨ao,c,rfl⟩:=hR.shape
 clear h h1 hR hF hC
 generalize pfF l=f at *
 generalize l.length=m at *
 generalize pkN n k=sn at *
 go_enter Tryz.func46,Tryz.ntmps46
 go_wp2_with (first | (go_at_call 73;refine HN.mono ?_;rintro e w1 ⟨rfl,hb1⟩) | (go_at_call 74;refine (HP _ hb1).mono ?_;rintro e w2 ⟨rfl,hb2⟩;have hB2:=hb1.trans (hb2.mono hb1.size)))
 go_ret2
 exact ⟨rfl,hB2⟩
theorem zps (n k:Int) (v:Value) (l:List F) (w:World) (hF:V.Forms w) (hC:Cnts w) (hR:FRow w v l) (h:U.zc8 n k=true) (h1:pfF l=0) (h2:200<(pkS n k l).size):
  Calls Tryz.prog 46 #[.int .i64 n,.int .i64 k,v] w fun e w'=>e= .returned (.tuple #[.string {data:= #[]},.iface 78 (.int .i64 4)])∧Below w.heap.size w w':=by
 have HN:=zfd n k w h
 have HP:=fun W (hb:Below w.heap.size w W)=>zv3 v l W (hF.below hb) (hC.below hb) (hR.below hb) h1
 obtain ⟨ao,c,rfl⟩:=hR.shape
 have hsz:=zry (n:=n) (k:=k) h1
 unfold pkS at *
 rw [ByteArray.size_append] at h2
 clear h h1 hR hF hC
 generalize l.length=m at *
 generalize pkN n k=sn at *
 generalize fsS l=sf at *
 have ht:(200:Int)<(sn.size:Int)+(sf.size:Int):=by omega
 have ha:sn.size+sf.size≤9223372036854775807:=by omega
 have hs1:(sn.size:Int)≤5:=by omega
 have hs2:(sf.size:Int)≤1452:=by omega
 clear h2
 go_enter Tryz.func46,Tryz.ntmps46
 go_wp2_with (first | (go_at_call 73;refine HN.mono ?_;rintro e w1 ⟨rfl,hb1⟩) | (go_at_call 74;refine (HP _ hb1).mono ?_;rintro e w2 ⟨rfl,hb2⟩;have hB2:=hb1.trans (hb2.mono hb1.size)))
 go_ret2
 exact ⟨rfl,hB2⟩
theorem zp8 (n k:Int) (v:Value) (l:List F) (w:World) (hF:V.Forms w) (hC:Cnts w) (hR:FRow w v l) (h:U.zc8 n k=true) (h1:pfF l=0) (h2:(pkS n k l).size≤200):
  Calls Tryz.prog 46 #[.int .i64 n,.int .i64 k,v] w fun e w'=>e= .returned (.tuple #[.string (pkS n k l),.nilIface])∧Below w.heap.size w w':=by
 have HN:=zfd n k w h
 have HP:=fun W (hb:Below w.heap.size w W)=>zv3 v l W (hF.below hb) (hC.below hb) (hR.below hb) h1
 obtain ⟨ao,c,rfl⟩:=hR.shape
 have hsz:=zry (n:=n) (k:=k) h1
 unfold pkS at *
 rw [ByteArray.size_append] at h2
 clear h h1 hR hF hC
 generalize l.length=m at *
 generalize pkN n k=sn at *
 generalize fsS l=sf at *
 have ht:¬(200:Int)<(sn.size:Int)+(sf.size:Int):=by omega
 have ha:sn.size+sf.size≤9223372036854775807:=by omega
 have hs1:(sn.size:Int)≤5:=by omega
 have hs2:(sf.size:Int)≤1452:=by omega
 clear h2
 go_enter Tryz.func46,Tryz.ntmps46
 go_wp2_with (first | (go_at_call 73;refine HN.mono ?_;rintro e w1 ⟨rfl,hb1⟩) | (go_at_call 74;refine (HP _ hb1).mono ?_;rintro e w2 ⟨rfl,hb2⟩;have hB2:=hb1.trans (hb2.mono hb1.size)))
 go_ret2
 exact ⟨rfl,hB2⟩
theorem zn5 (n k:Int) (v:Value) (l:List F) (w:World) (hF:V.Forms w) (hC:Cnts w) (hR:FRow w v l) (h:pkF n k l≠0):
  Calls Tryz.prog 46 #[.int .i64 n,.int .i64 k,v] w fun e w'=>e= .returned (.tuple #[.string {data:= #[]},errV (pkF n k l)])∧Below w.heap.size w w':=by
 cases h1:U.zc8 n k with
 | false=>
  rw [show pkF n k l=1 by simp only [pkF,if_pos h1]]
  obtain ⟨ao,c,rfl⟩:=hR.shape
  exact zqf n k ao _ c w h1
 | true=>
  rw [zGt n k l h1] at h ⊢
  by_cases h2:pfF l=0
  ·rw [if_neg (by simp [h2])] at h ⊢
   by_cases h3:200<(pkS n k l).size
   ·rw [if_pos h3]
    exact zps n k v l w hF hC hR h1 h2 h3
   ·rw [if_neg h3] at h
    exact absurd rfl h
  ·rw [if_pos h2]
   exact zp0 n k v l w hF hC hR h1 h2
theorem zn9 (n k:Int) (v:Value) (l:List F) (w:World) (hF:V.Forms w) (hC:Cnts w) (hR:FRow w v l) (h:pkF n k l=0):
  Calls Tryz.prog 46 #[.int .i64 n,.int .i64 k,v] w fun e w'=>e= .returned (.tuple #[.string (pkS n k l),.nilIface])∧Below w.heap.size w w':=by
 obtain ⟨h1,h2,h3,h4,h5⟩:=zie h
 exact zp8 n k v l w hF hC hR h1 (by unfold pfF;rw [if_neg (by omega),if_neg (by omega)];exact h4) h5
theorem zco {d:ByteArray} {k:Nat} (h:k<d.size) (w:World):(Instr.index 9 (.string d) (.int .i64 (k:Int))).run Tryz.prog w= .ok (.int .u8 ((V.ints d)[k]?.getD 0)) w:=by
 have e:((d[k].toNat:Nat):Int)=(V.ints d)[k]?.getD 0:=by
  obtain ⟨⟨r⟩⟩:=d
  have h':k<r.length:=h
  simp [V.ints,h']
  rfl
 have hp:(k:Int)<(d.size:Int):=by omega
 have eu:=Tryz.underlying9
 go_simp
 first | done | simp [e]
theorem zzv (next:Int) (w:World):Calls Tryz.prog 77 #[.string {data:= #[]},.int .i64 next] w fun e w'=>e= .returned (.tuple #[.int .i64 0,.string {data:= #[]},.iface 78 (.int .i64 2)])∧Below w.heap.size w w':=by
 go_enter Tryz.func77,Tryz.ntmps77
 go_wp2_with fail
 go_ret3
 exact ⟨rfl,Below.refl _ _⟩
theorem ztv (s:ByteArray) (next k:Int) (l:List Int) (w:World) (hs:V.ints s=k::l) (hl:s.size≤200) (h:(l.length:Int)<k):Calls Tryz.prog 77 #[.string s,.int .i64 next] w fun e w'=>e= .returned (.tuple #[.int .i64 0,.string {data:= #[]},.iface 78 (.int .i64 2)])∧Below w.heap.size w w':=by
 have hz:s.size=l.length+1:=by rw [←zaa,hs];rfl
 have hby:Bytes l:=fun z hz=>zab s z (by rw [hs];simp [hz])
 have hk:0≤k∧k<256:=zab s k (by rw [hs];simp)
 have hne:=zb0 (d:=s) (by omega)
 have hi0:=fun W=>zct s k l hs W
 have tl:s.size≤9223372036854775807:=by omega
 have gl:(s.size:Int)≤k:=by omega
 clear hs hby hz h
 go_enter Tryz.func77,Tryz.ntmps77
 go_wp2_with fail
 go_ret3
 exact ⟨rfl,Below.refl _ _⟩
theorem zzm (s:ByteArray) (next k:Int) (l:List Int) (w:World) (hs:V.ints s=k::l) (hl:s.size≤200) (h:¬(l.length:Int)<k) (hb:U.lenB k=false):Calls Tryz.prog 77 #[.string s,.int .i64 next] w fun e w'=>e= .returned (.tuple #[.int .i64 0,.string {data:= #[]},.iface 78 (.int .i64 2)])∧Below w.heap.size w w':=by
 have hz:s.size=l.length+1:=by rw [←zaa,hs];rfl
 have hby:Bytes l:=fun z hz=>zab s z (by rw [hs];simp [hz])
 have hk:0≤k∧k<256:=zab s k (by rw [hs];simp)
 have hne:=zb0 (d:=s) (by omega)
 have hi0:=fun W=>zct s k l hs W
 have tl:s.size≤9223372036854775807:=by omega
 have hsl:∀W:World,(Instr.slice 9 (.string s) (some (.int .i64 1)) none none).run Tryz.prog W= .ok (.string (s.extract 1 s.size)) W:=fun W=>zbm s 1 (by omega) tl W
 have hid:V.ints (s.extract 1 s.size)=l:=by rw [zae s 1 (by omega),hs];rfl
 have hr1:(s.extract 1 s.size).size=l.length:=by rw [←zaa,hid]
 have HIX:Hid (∀(i:Nat) (W:World),i<l.length→(Instr.index 9 (.string (s.extract 1 s.size)) (.int .i64 (i:Int))).run Tryz.prog W= .ok (.int .u8 (l[i]?.getD 0)) W):=fun i W hi=>by
  have:=zco (d:=s.extract 1 s.size) (k:=i) (by omega) W
  rw [hid] at this
  exact this
 obtain ⟨K,rfl⟩:∃K:Nat,k=(K:Int):=⟨k.toNat,by omega⟩
 have gl:¬(s.size:Int)≤(K:Int):=by omega
 have HEX:Hid (∀a,a≤l.length→(s.extract 1 s.size).extract a (s.extract 1 s.size).size=s.extract (1+a) s.size):=fun a ha=>by
  apply zbb
  rw [zae _ _ (by omega),hid,zae _ _ (by omega),hs,show 1+a=a+1 by omega,List.drop_succ_cons]
 generalize hr1':s.extract 1 s.size=r1 at *
 have HK:Hid ((K:Nat)≤l.length):=by show _≤_;omega
 have HS:Hid (s.size=l.length+1):=hz
 have HBY:Hid (Bytes l):=hby
 clear hz hs hid hr1' hby
 have HW:Hid (∀z W,Calls Tryz.prog 103 #[.int .i64 z,.int .i64 (K:Int),.int .i64 next] W fun e w'=>e= .returned (.tuple #[.int .i64 0,.iface 78 (.int .i64 1)])∧w'=W):=fun z W=>U.zq5 z K next W (by simp [U.zch,hb])
 clear hb h
 go_enter Tryz.func77,Tryz.ntmps77
 go_wp2_with fail
 go_quiet (fail)
 go_wp2_with fail
 go_loopw [9,30] (fun c i wr=>∃(j:Nat) (z:Int),j≤K∧i= .int .i64 (j:Int)∧c= .int .i64 z∧Hid (Below w.heap.size w wr)) (fun _ i _=>K-(intOf i).toNat)
 case atStart=>exact ⟨0,0,Nat.zero_le _,rfl,rfl,below_drewN (Below.refl _ _) _⟩
 case round=>
  obtain ⟨j,z,hj,rfl,rfl,HB⟩:=hrel
  by_cases hlt:j<K
  ·have g1:(j:Int)<(K:Int):=by omega
   have hix:=fun W=>HIX.out j W (by have:=HK.out;omega)
   generalize l[j]?.getD 0=y at hix
   go_wp2_with fail
   exact ⟨⟨j+1,_,by omega,by go_num,rfl,HB⟩,by simp [intOf];omega⟩
  ·have g1:¬(j:Int)<(K:Int):=by omega
   have HWz:=HW.out z
   go_wp2_with (first | (go_at_call 103;refine (HWz _).mono ?_;rintro e w1 ⟨rfl,rfl⟩))
   go_ret3
   exact ⟨rfl,HB.out⟩
theorem zDn (s:ByteArray) (next k:Int) (l:List Int) (w:World) (hs:V.ints s=k::l) (hl:s.size≤200) (h:¬(l.length:Int)<k) (hb:U.lenB k=true) (hw:U.zch (big (l.take k.toNat)) k next=false):Calls Tryz.prog 77 #[.string s,.int .i64 next] w fun e w'=>e= .returned (.tuple #[.int .i64 0,.string {data:= #[]},.iface 78 (.int .i64 2)])∧Below w.heap.size w w':=by
 have hz:s.size=l.length+1:=by rw [←zaa,hs];rfl
 have hby:Bytes l:=fun z hz=>zab s z (by rw [hs];simp [hz])
 have hk:0≤k∧k<256:=zab s k (by rw [hs];simp)
 have hne:=zb0 (d:=s) (by omega)
 have hi0:=fun W=>zct s k l hs W
 have tl:s.size≤9223372036854775807:=by omega
 have hsl:∀W:World,(Instr.slice 9 (.string s) (some (.int .i64 1)) none none).run Tryz.prog W= .ok (.string (s.extract 1 s.size)) W:=fun W=>zbm s 1 (by omega) tl W
 have hid:V.ints (s.extract 1 s.size)=l:=by rw [zae s 1 (by omega),hs];rfl
 have hr1:(s.extract 1 s.size).size=l.length:=by rw [←zaa,hid]
 have HIX:Hid (∀(i:Nat) (W:World),i<l.length→(Instr.index 9 (.string (s.extract 1 s.size)) (.int .i64 (i:Int))).run Tryz.prog W= .ok (.int .u8 (l[i]?.getD 0)) W):=fun i W hi=>by
  have:=zco (d:=s.extract 1 s.size) (k:=i) (by omega) W
  rw [hid] at this
  exact this
 obtain ⟨K,rfl⟩:∃K:Nat,k=(K:Int):=⟨k.toNat,by omega⟩
 have gl:¬(s.size:Int)≤(K:Int):=by omega
 have HEX:Hid (∀a,a≤l.length→(s.extract 1 s.size).extract a (s.extract 1 s.size).size=s.extract (1+a) s.size):=fun a ha=>by
  apply zbb
  rw [zae _ _ (by omega),hid,zae _ _ (by omega),hs,show 1+a=a+1 by omega,List.drop_succ_cons]
 generalize hr1':s.extract 1 s.size=r1 at *
 have HK:Hid ((K:Nat)≤l.length):=by show _≤_;omega
 have HS:Hid (s.size=l.length+1):=hz
 have HBY:Hid (Bytes l):=hby
 clear hz hs hid hr1' hby
 rw [Int.toNat_natCast] at hw
 have H4:Hid (K≤4):=by show _≤_;have:=U.zbz hb;omega
 have HW:Hid (∀W,Calls Tryz.prog 103 #[.int .i64 (big (l.take K)),.int .i64 (K:Int),.int .i64 next] W fun e w'=>e= .returned (.tuple #[.int .i64 0,.iface 78 (.int .i64 1)])∧w'=W):=fun W=>U.zq5 _ _ next W hw
 clear hb h hw
 go_enter Tryz.func77,Tryz.ntmps77
 go_wp2_with fail
 go_quiet (fail)
 go_wp2_with fail
 go_loopw [9,30] (fun c i wr=>∃(j:Nat),j≤K∧i= .int .i64 (j:Int)∧c= .int .i64 (big (l.take j))∧Hid (Below w.heap.size w wr)) (fun _ i _=>K-(intOf i).toNat)
 case atStart=>exact ⟨0,Nat.zero_le _,rfl,rfl,below_drewN (Below.refl _ _) _⟩
 case round=>
  obtain ⟨j,hj,rfl,rfl,HB⟩:=hrel
  by_cases hlt:j<K
  ·have g1:(j:Int)<(K:Int):=by omega
   have hjl:j<l.length:=by have:=HK.out;omega
   have hix:=fun W=>HIX.out j W hjl
   have hbd:=zgg HBY.out j (by omega) (by have:=H4.out;omega)
   have HN:Hid (big (l.take (j+1))=256*big (l.take j)+l[j]?.getD 0):=zg0 hjl
   have hy:0≤l[j]?.getD 0∧l[j]?.getD 0<256:=by
    rw [List.getElem?_eq_getElem hjl]
    exact HBY.out _ (List.getElem_mem _)
   clear hjl
   generalize l[j]?.getD 0=y at hix hy HN
   generalize big (l.take j)=z at hbd HN
   obtain ⟨y0,y1⟩:=hy
   obtain ⟨z0,z1⟩:=hbd
   have ho:=V.zdu z y z0 (by omega) y0 y1
   go_wp2_with fail
   exact ⟨⟨j+1,by omega,by go_num,by rw [HN.out,Int.mul_comm],HB⟩,by simp [intOf];omega⟩
  ·have g1:¬(j:Int)<(K:Int):=by omega
   obtain rfl:j=K:=by omega
   have HWz:=HW.out
   generalize big (l.take j)=z at HWz
   go_wp2_with (first | (go_at_call 103;refine (HWz _).mono ?_;rintro e w1 ⟨rfl,rfl⟩))
   go_ret3
   exact ⟨rfl,HB.out⟩
theorem zzj (s:ByteArray) (next k:Int) (l:List Int) (w:World) (hs:V.ints s=k::l) (hl:s.size≤200) (h:¬(l.length:Int)<k) (hb:U.lenB k=true) (hw:U.zch (big (l.take k.toNat)) k next=true):Calls Tryz.prog 77 #[.string s,.int .i64 next] w fun e w'=>e= .returned (.tuple #[.int .i64 (U.near (big (l.take k.toNat)) (U.rnd k) next),.string (s.extract (1+k.toNat) s.size),.nilIface])∧Below w.heap.size w w':=by
 have hz:s.size=l.length+1:=by rw [←zaa,hs];rfl
 have hby:Bytes l:=fun z hz=>zab s z (by rw [hs];simp [hz])
 have hk:0≤k∧k<256:=zab s k (by rw [hs];simp)
 have hne:=zb0 (d:=s) (by omega)
 have hi0:=fun W=>zct s k l hs W
 have tl:s.size≤9223372036854775807:=by omega
 have hsl:∀W:World,(Instr.slice 9 (.string s) (some (.int .i64 1)) none none).run Tryz.prog W= .ok (.string (s.extract 1 s.size)) W:=fun W=>zbm s 1 (by omega) tl W
 have hid:V.ints (s.extract 1 s.size)=l:=by rw [zae s 1 (by omega),hs];rfl
 have hr1:(s.extract 1 s.size).size=l.length:=by rw [←zaa,hid]
 have HIX:Hid (∀(i:Nat) (W:World),i<l.length→(Instr.index 9 (.string (s.extract 1 s.size)) (.int .i64 (i:Int))).run Tryz.prog W= .ok (.int .u8 (l[i]?.getD 0)) W):=fun i W hi=>by
  have:=zco (d:=s.extract 1 s.size) (k:=i) (by omega) W
  rw [hid] at this
  exact this
 obtain ⟨K,rfl⟩:∃K:Nat,k=(K:Int):=⟨k.toNat,by omega⟩
 have gl:¬(s.size:Int)≤(K:Int):=by omega
 have HEX:Hid (∀a,a≤l.length→(s.extract 1 s.size).extract a (s.extract 1 s.size).size=s.extract (1+a) s.size):=fun a ha=>by
  apply zbb
  rw [zae _ _ (by omega),hid,zae _ _ (by omega),hs,show 1+a=a+1 by omega,List.drop_succ_cons]
 generalize hr1':s.extract 1 s.size=r1 at *
 have HK:Hid ((K:Nat)≤l.length):=by show _≤_;omega
 have HS:Hid (s.size=l.length+1):=hz
 have HBY:Hid (Bytes l):=hby
 clear hz hs hid hr1' hby
 rw [Int.toNat_natCast] at hw ⊢
 have H4:Hid (K≤4):=by show _≤_;have:=U.zbz hb;omega
 have HW:Hid (∀W,Calls Tryz.prog 103 #[.int .i64 (big (l.take K)),.int .i64 (K:Int),.int .i64 next] W fun e w'=>e= .returned (.tuple #[.int .i64 (U.near (big (l.take K)) (U.rnd K) next),.nilIface])∧w'=W):=fun W=>U.zxj _ _ next W hw
 have hsl2:=fun W=>zbm r1 K (by have:=HK.out;omega) (by have:=HS.out;omega) W
 rw [HEX.out K HK.out] at hsl2
 clear hb h hw
 generalize U.near (big (l.take K)) (U.rnd K) next=N at *
 generalize s.extract (1+K) s.size=r2 at *
 go_enter Tryz.func77,Tryz.ntmps77
 go_wp2_with fail
 go_quiet (fail)
 go_wp2_with fail
 go_loopw [9,30] (fun c i wr=>∃(j:Nat),j≤K∧i= .int .i64 (j:Int)∧c= .int .i64 (big (l.take j))∧Hid (Below w.heap.size w wr)) (fun _ i _=>K-(intOf i).toNat)
 case atStart=>exact ⟨0,Nat.zero_le _,rfl,rfl,below_drewN (Below.refl _ _) _⟩
 case round=>
  obtain ⟨j,hj,rfl,rfl,HB⟩:=hrel
  by_cases hlt:j<K
  ·have g1:(j:Int)<(K:Int):=by omega
   have hjl:j<l.length:=by have:=HK.out;omega
   have hix:=fun W=>HIX.out j W hjl
   have hbd:=zgg HBY.out j (by omega) (by have:=H4.out;omega)
   have HN:Hid (big (l.take (j+1))=256*big (l.take j)+l[j]?.getD 0):=zg0 hjl
   have hy:0≤l[j]?.getD 0∧l[j]?.getD 0<256:=by
    rw [List.getElem?_eq_getElem hjl]
    exact HBY.out _ (List.getElem_mem _)
   clear hjl
   generalize l[j]?.getD 0=y at hix hy HN
   generalize big (l.take j)=z at hbd HN
   obtain ⟨y0,y1⟩:=hy
   obtain ⟨z0,z1⟩:=hbd
   have ho:=V.zdu z y z0 (by omega) y0 y1
   go_wp2_with fail
   exact ⟨⟨j+1,by omega,by go_num,by rw [HN.out,Int.mul_comm],HB⟩,by simp [intOf];omega⟩
  ·have g1:¬(j:Int)<(K:Int):=by omega
   obtain rfl:j=K:=by omega
   have HWz:=HW.out
   generalize big (l.take j)=z at HWz
   go_wp2_with (first | (go_at_call 103;refine (HWz _).mono ?_;rintro e w1 ⟨rfl,rfl⟩))
   go_quiet (fail)
   go_wp2_with fail
   go_ret3
   exact ⟨rfl,below_drewN HB.out _⟩
theorem zck {w:World} {B e size n:Nat} {v:Value} {xs:List Value} (h:w.ownsRow B e size v n xs):∃a c,v= .slice a n c:=by
 rcases h.2 with ⟨rfl,rfl⟩ | ⟨g,cap,cur,rfl,_⟩
 ·exact ⟨none,0,rfl⟩
 ·exact ⟨_,cap,rfl⟩
theorem zob {w:World} {B B' e size n:Nat} {v:Value} {xs:List Value} (h:w.ownsRow B e size v n xs) (hb:B'≤B):w.ownsRow B' e size v n xs:=
 ⟨h.1,h.2.imp id (fun ⟨g,cap,cur,a,b,c⟩=>⟨g,cap,cur,a,Nat.le_trans hb b,c⟩)⟩
theorem zFe (w:World):Calls Tryz.prog 78 #[.string {data:= #[]}] w fun e w'=>e= .returned (.tuple #[.slice none 0 0,.iface 78 (.int .i64 2)])∧Below w.heap.size w w':=by
 go_enter Tryz.func78,Tryz.ntmps78
 go_wp2_with fail
 go_ret2
 exact ⟨rfl,Below.refl _ _⟩
abbrev zDb (s:ByteArray) (w:World) (e:Ending) (w':World):Prop:=
 ((fin (rdL s)=none∧e= .returned (.tuple #[.slice none 0 0,.iface 78 (.int .i64 2)]))∨(∃l v us,fin (rdL s)=some l∧e= .returned (.tuple #[v,.nilIface])∧FOwn w' w.heap.size v us l))∧Below w.heap.size w w'
theorem zzr (s:ByteArray) (w:World) (hF:V.Forms w) (hC:Cnts w) (hl:s.size≤200) (h0:s.size≠0):Calls Tryz.prog 78 #[.string s] w (zDb s w):=by
 obtain ⟨i0,hi,hz0,hz1,hz2⟩:=info_parts zvb
 have hne:=zb0 (d:=s) h0
 have HV:Hid (V.Forms w∧Cnts w):=⟨hF,hC⟩
 have H0:Hid (s.size≠0):=h0
 have HL2:Hid (s.size≤200):=hl
 clear hF hC h0 hl
 go_enter Tryz.func78,Tryz.ntmps78
 go_wp2_with fail
 go_loopg [0,4] s.size (fun gg s0 s4 wr=>∃(r:ByteArray) (L:List F) (us:List Value),s0= .string r∧r.size≤gg∧Hid (r.size≤200)∧Hid (FOwn wr w.heap.size s4 us L)∧L.length≤12∧Hid (rdLA L r=rdL s)∧Hid (L.length=0→r.size≠0)∧Hid (Below w.heap.size w wr))
 case atStart=>exact ⟨s,[],[],rfl,Nat.le_refl _,HL2,FOwn.nil _ _,by simp,zlb s,fun _=>H0.out,Below.refl _ _⟩
 case round=>
  obtain ⟨r,L,us,rfl,hg,HR2,HO,h12,HRD,HN0,HB⟩:=hrel
  obtain ⟨a4,c4,hs4⟩:=zck HO.out.own
  subst hs4
  have hr200:=HR2.out
  by_cases hr0:r.size=0
  ·obtain rfl:=zc1 hr0
   have hlen:1≤L.length:=by
    by_cases e:L.length=0
    ·exact absurd hr0 (HN0.out e)
    ·omega
   have HFN:Hid (fin (rdL s)=some L):=by
    show _=_
    rw [←HRD.out,zsa hr0,zm0 hlen h12]
   go_wp2_with fail
   go_ret2
   exact ⟨.inr ⟨L,_,us,HFN.out,rfl,HO.out⟩,HB.out⟩
  ·have hner:=zb0 (d:=r) hr0
   by_cases hfull:L.length=12
   ·have HFN:Hid (fin (rdL s)=none):=by
     show _=_
     rw [←HRD.out,zBh hfull hr0]
    rw [hfull] at *
    go_wp2_with fail
    go_ret2
    exact ⟨.inl ⟨HFN.out,rfl⟩,HB.out⟩
   ·have gf:¬(L.length:Int)=12:=by omega
    have hlm:r.size≤maxLen:=by unfold maxLen;omega
    cases hf:rdF r with
    | none=>
     have HP:=zku r wr (HV.out.2.below HB.out) (HV.out.1.below HB.out) hlm hf
     have HFN:Hid (fin (rdL s)=none):=by
      show _=_
      rw [←HRD.out,zoi hr0 hf];rfl
     simp only [zeb,errS] at HP
     clear hf hlm
     generalize L.length=m at *
     go_wp2_with (first | (go_at_call 104;refine HP.mono ?_;rintro e w1 ⟨rfl,hb1⟩;have hB1:=HB.out.trans (hb1.mono HB.out.size)))
     go_ret2
     exact ⟨.inl ⟨HFN.out,rfl⟩,hB1.alloc hB1.size _⟩
    | some y=>
     obtain ⟨⟨kk,ns,d⟩,nn⟩:=y
     have HP:=zji r wr (HV.out.2.below HB.out) (HV.out.1.below HB.out) hlm kk ns d nn hf
     obtain ⟨hgood,hn1,hn2⟩:=zj8 (L:=L) hf
     have HG:Hid (fF (kk,ns,d)=0):=hgood
     have HRD2:Hid (rdLA (L++ [(kk,ns,d)]) (r.extract nn r.size)=rdL s):=by
      show _=_
      rw [←zom hr0 hf];exact HRD.out
     have hsl:=fun W=>zbm r nn hn2 (by omega) W
     have hrs:(r.extract nn r.size).size=r.size-nn:=by rw [ByteArray.size_extract];omega
     have HM:Hid ((r.extract nn r.size).size<r.size):=by show _<_;omega
     clear hf hlm hgood HRD
     generalize r.extract nn r.size=r2 at *
     clear hrs
     go_wp2_with fail
     refine HP.mono ?_
     rintro e w1 ⟨v1,rfl,ho1,hb1⟩
     obtain ⟨a1,c1,hv1⟩:=zck ho1
     subst hv1
     have hB1:=HB.out.trans (hb1.mono HB.out.size)
     have bel2:Below w1.heap.size w1 (w1.alloc (.cells #[.int .i64 kk,.slice a1 ns.length c1,.string d] 114)):=(Below.refl _ w1).alloc (Nat.le_refl _) _
     have bel3:Below w1.heap.size w1 ((w1.alloc (.cells #[.int .i64 kk,.slice a1 ns.length c1,.string d] 114)).alloc (.cells #[.int .i64 kk,.slice a1 ns.length c1,.string d] 114)):=bel2.alloc bel2.size _
     have hB3:=hB1.trans (bel3.mono hB1.size)
     have hO3:=(HO.out.below hb1).below bel3
     have ho3:=zid (ho1.below bel3) HB.out.size
     have hcn:=za0 (w1.alloc (.cells #[.int .i64 kk,.slice a1 ns.length c1,.string d] 114)) kk (.slice a1 ns.length c1) d 114
     have h1c:=zcl kk a1 ns.length c1 d
     have hsz3:w.heap.size≤((w1.alloc (.cells #[.int .i64 kk,.slice a1 ns.length c1,.string d] 114)).alloc (.cells #[.int .i64 kk,.slice a1 ns.length c1,.string d] 114)).heap.size:=hB3.size
     have hszA:(w1.alloc (.cells #[.int .i64 kk,.slice a1 ns.length c1,.string d] 114)).heap.size=w1.heap.size+1:=by simp
     rw [hszA] at hcn
     clear HP bel2 bel3 hB1 hszA
     go_wp2_with (at_builtin;refine wpList_append_own_at _ rfl (.tmp 26) (.tmp 28) 104 rfl w.heap.size 114 i0 _ 3 48 Tryz.underlying104 hi hz0 hz1 hz2 rfl (by decide) _ _ (fcs us L) rfl hO3.own ⟨w1.heap.size+1,0,none⟩ 1 1 [Value.int .i64 kk,.slice a1 ns.length c1,.string d] rfl rfl hcn h1c (by unfold maxLen;omega) (by omega) hsz3 ?_;intro v5 w5 ho5 hg5 _ hl5)
     have hO5:=hO3.app (f:=(kk,ns,d)) ho3 HG.out ho5 hg5
     have hB5:=hB3.grown hg5 hsz3 (fun k e=>(hO3.own.lt k e).1)
     go_roundg r2.size
     case measure=>have:=HM.out;omega
     case rel=>exact ⟨r2,L++ [(kk,ns,d)],us++ [Value.slice a1 ns.length c1],rfl,Nat.le_refl _,(show _≤_ by have:=HM.out;omega),hO5,by rw [List.length_append];simp;omega,HRD2.out,(fun e=>by rw [List.length_append] at e;simp at e),hB5⟩
theorem znd (s:ByteArray) (w:World) (hF:V.Forms w) (hC:Cnts w) (hl:s.size≤200):Calls Tryz.prog 78 #[.string s] w (zDb s w):=by
 by_cases h0:s.size=0
 ·obtain rfl:=zc1 h0
  exact (zFe w).mono fun e w' hh=>⟨.inl ⟨by rw [zkb h0];rfl,hh.1⟩,hh.2⟩
 ·exact zzr s w hF hC hl h0
theorem zHk (s:ByteArray) (w:World) (hF:V.Forms w) (hC:Cnts w) (hl:s.size≤200) (h:fin (rdL s)=none):Calls Tryz.prog 78 #[.string s] w fun e w'=>e= .returned (.tuple #[.slice none 0 0,.iface 78 (.int .i64 2)])∧Below w.heap.size w w':=by
 refine (znd s w hF hC hl).mono ?_
 rintro e w' ⟨⟨_,rfl⟩ | ⟨l,v,us,h1,_⟩,hb⟩
 ·exact ⟨rfl,hb⟩
 ·rw [h] at h1;cases h1
theorem zDg (s:ByteArray) (w:World) (hF:V.Forms w) (hC:Cnts w) (hl:s.size≤200) (l:List F) (h:fin (rdL s)=some l):Calls Tryz.prog 78 #[.string s] w fun e w'=>∃v us,e= .returned (.tuple #[v,.nilIface])∧FOwn w' w.heap.size v us l∧Below w.heap.size w w':=by
 refine (znd s w hF hC hl).mono ?_
 rintro e w' ⟨⟨h1,_⟩ | ⟨l',v,us,h1,rfl,ho⟩,hb⟩
 ·rw [h] at h1;cases h1
 ·rw [h] at h1;cases h1
  exact ⟨v,us,rfl,ho,hb⟩
theorem zla (s:ByteArray) (next:Int) (w:World) (hl:s.size≤200):Calls Tryz.prog 77 #[.string s,.int .i64 next] w fun e w'=>((rdN s next=none∧e= .returned (.tuple #[.int .i64 0,.string {data:= #[]},.iface 78 (.int .i64 2)]))∨(∃n c,rdN s next=some (n,c)∧e= .returned (.tuple #[.int .i64 n,.string (s.extract c s.size),.nilIface])))∧Below w.heap.size w w':=by
 unfold rdN
 cases hs:V.ints s with
 | nil=>
  obtain rfl:s= {data:= #[]}:=zc1 (by rw [←zaa,hs];rfl)
  exact (zzv next w).mono fun e w' hh=>⟨.inl ⟨rfl,hh.1⟩,hh.2⟩
 | cons k l=>
  simp only
  by_cases h:(l.length:Int)<k
  ·rw [if_pos (Or.inr h)]
   exact (ztv s next k l w hs hl h).mono fun e w' hh=>⟨.inl ⟨rfl,hh.1⟩,hh.2⟩
  ·cases hb:U.lenB k with
   | false=>
    rw [if_pos (Or.inl rfl)]
    exact (zzm s next k l w hs hl h hb).mono fun e w' hh=>⟨.inl ⟨rfl,hh.1⟩,hh.2⟩
   | true=>
    rw [if_neg (fun hh=>by rcases hh with e | e;cases e;exact h e)]
    cases hw:U.zch (big (l.take k.toNat)) k next with
    | false=>
     rw [if_pos rfl]
     exact (zDn s next k l w hs hl h hb hw).mono fun e w' hh=>⟨.inl ⟨rfl,hh.1⟩,hh.2⟩
    | true=>
     rw [if_neg (by decide)]
     exact (zzj s next k l w hs hl h hb hw).mono fun e w' hh=>⟨.inr ⟨_,_,rfl,hh.1⟩,hh.2⟩
theorem zvz (s:ByteArray) (next:Int) (w:World) (hl:s.size≤200) (h:rdN s next=none):Calls Tryz.prog 77 #[.string s,.int .i64 next] w fun e w'=>e= .returned (.tuple #[.int .i64 0,.string {data:= #[]},.iface 78 (.int .i64 2)])∧Below w.heap.size w w':=by
 refine (zla s next w hl).mono ?_
 rintro e w' ⟨⟨_,rfl⟩ | ⟨n,c,h1,_⟩,hb⟩
 ·exact ⟨rfl,hb⟩
 ·rw [h] at h1;cases h1
theorem znu (s:ByteArray) (next:Int) (w:World) (hl:s.size≤200) (n:Int) (c:Nat) (h:rdN s next=some (n,c)):Calls Tryz.prog 77 #[.string s,.int .i64 next] w fun e w'=>e= .returned (.tuple #[.int .i64 n,.string (s.extract c s.size),.nilIface])∧Below w.heap.size w w':=by
 refine (zla s next w hl).mono ?_
 rintro e w' ⟨⟨h1,_⟩ | ⟨n',c',h1,rfl⟩,hb⟩
 ·rw [h] at h1;cases h1
 ·rw [h] at h1;cases h1
  exact ⟨rfl,hb⟩
theorem zA1 (s:ByteArray) (next:Int) (w:World) (h:next<0):Calls Tryz.prog 52 #[.string s,.int .i64 next] w fun e w'=>e= .returned (.tuple #[.int .i64 0,.slice none 0 0,.iface 78 (.int .i64 1)])∧Below w.heap.size w w':=by
 go_enter Tryz.func52,Tryz.ntmps52
 go_wp2_with fail
 go_ret3
 exact ⟨rfl,Below.refl _ _⟩
theorem zzx (s:ByteArray) (next:Int) (w:World) (h0:¬next<0) (h:1073741823<next):Calls Tryz.prog 52 #[.string s,.int .i64 next] w fun e w'=>e= .returned (.tuple #[.int .i64 0,.slice none 0 0,.iface 78 (.int .i64 1)])∧Below w.heap.size w w':=by
 go_enter Tryz.func52,Tryz.ntmps52
 go_wp2_with fail
 go_ret3
 exact ⟨rfl,Below.refl _ _⟩
theorem zCo (s:ByteArray) (next:Int) (w:World) (hm:U.mayB next=true) (h:200<s.size) (hl:s.size≤9223372036854775807):Calls Tryz.prog 52 #[.string s,.int .i64 next] w fun e w'=>e= .returned (.tuple #[.int .i64 0,.slice none 0 0,.iface 78 (.int .i64 4)])∧Below w.heap.size w w':=by
 obtain ⟨n0,n1⟩:=U.zad hm
 have g0:¬next<0:=by omega
 have g1:¬(1073741823:Int)<next:=by omega
 have g2:(200:Int)<(s.size:Int):=by omega
 clear hm
 go_enter Tryz.func52,Tryz.ntmps52
 go_wp2_with fail
 go_ret3
 exact ⟨rfl,Below.refl _ _⟩
theorem zAs (s:ByteArray) (next:Int) (w:World) (hm:U.mayB next=true) (hl:s.size≤200) (h:rdN s next=none):Calls Tryz.prog 52 #[.string s,.int .i64 next] w fun e w'=>e= .returned (.tuple #[.int .i64 0,.slice none 0 0,.iface 78 (.int .i64 2)])∧Below w.heap.size w w':=by
 obtain ⟨n0,n1⟩:=U.zad hm
 have g0:¬next<0:=by omega
 have g1:¬(1073741823:Int)<next:=by omega
 have g2:¬(200:Int)<(s.size:Int):=by omega
 have tl:s.size≤9223372036854775807:=by omega
 have HN:=zvz s next w hl h
 clear hm hl h
 go_enter Tryz.func52,Tryz.ntmps52
 go_wp2_with (first | (go_at_call 77;refine HN.mono ?_;rintro e w1 ⟨rfl,hb1⟩))
 go_ret3
 exact ⟨rfl,hb1⟩
theorem zCf (s:ByteArray) (next:Int) (w:World) (hF:V.Forms w) (hC:Cnts w) (hm:U.mayB next=true) (hl:s.size≤200) (n:Int) (c:Nat) (h:rdN s next=some (n,c)) (h2:fin (rdL (s.extract c s.size))=none):Calls Tryz.prog 52 #[.string s,.int .i64 next] w fun e w'=>e= .returned (.tuple #[.int .i64 0,.slice none 0 0,.iface 78 (.int .i64 2)])∧Below w.heap.size w w':=by
 obtain ⟨n0,n1⟩:=U.zad hm
 have g0:¬next<0:=by omega
 have g1:¬(1073741823:Int)<next:=by omega
 have g2:¬(200:Int)<(s.size:Int):=by omega
 have tl:s.size≤9223372036854775807:=by omega
 have HN:=znu s next w hl n c h
 have hr:(s.extract c s.size).size≤200:=by rw [ByteArray.size_extract];omega
 have HT:=fun W (hb:Below w.heap.size w W)=>zHk (s.extract c s.size) W (hF.below hb) (hC.below hb) hr h2
 clear hm hl h h2 hF hC hr
 generalize s.extract c s.size=r at *
 go_enter Tryz.func52,Tryz.ntmps52
 go_wp2_with (first | (go_at_call 77;refine HN.mono ?_;rintro e w1 ⟨rfl,hb1⟩) | (go_at_call 78;refine (HT _ hb1).mono ?_;rintro e w2 ⟨rfl,hb2⟩;have hB2:=hb1.trans (hb2.mono hb1.size)))
 go_ret3
 exact ⟨rfl,hB2⟩
theorem zBd (s:ByteArray) (next:Int) (w:World) (hF:V.Forms w) (hC:Cnts w) (hm:U.mayB next=true) (hl:s.size≤200) (n:Int) (c:Nat) (h:rdN s next=some (n,c)) (l:List F) (h2:fin (rdL (s.extract c s.size))=some l):Calls Tryz.prog 52 #[.string s,.int .i64 next] w fun e w'=>∃v us,e= .returned (.tuple #[.int .i64 n,v,.nilIface])∧FOwn w' w.heap.size v us l∧Below w.heap.size w w':=by
 obtain ⟨n0,n1⟩:=U.zad hm
 have g0:¬next<0:=by omega
 have g1:¬(1073741823:Int)<next:=by omega
 have g2:¬(200:Int)<(s.size:Int):=by omega
 have tl:s.size≤9223372036854775807:=by omega
 have HN:=znu s next w hl n c h
 have hr:(s.extract c s.size).size≤200:=by rw [ByteArray.size_extract];omega
 have HT:=fun W (hb:Below w.heap.size w W)=>zDg (s.extract c s.size) W (hF.below hb) (hC.below hb) hr l h2
 clear hm hl h h2 hF hC hr
 generalize s.extract c s.size=r at *
 go_enter Tryz.func52,Tryz.ntmps52
 go_wp2_with (first | (go_at_call 77;refine HN.mono ?_;rintro e w1 ⟨rfl,hb1⟩) | (go_at_call 78;refine (HT _ hb1).mono ?_;rintro e w2 ⟨v,us,rfl,ho,hb2⟩;obtain ⟨av,cv,hv⟩:=zck ho.own;subst hv;have hB2:=hb1.trans (hb2.mono hb1.size)))
 go_ret3
 exact ⟨_,us,rfl,⟨ho.len,zob ho.own hb1.size,fun j hj=>zid (ho.rows j hj) hb1.size,ho.good⟩,hB2⟩
theorem zCy {s:ByteArray} {next:Int} (h:opF s next≠0):(U.mayB next=false∧opF s next=1)∨(U.mayB next=true∧200<s.size∧opF s next=4)∨(U.mayB next=true∧s.size≤200∧rdP s next=none∧opF s next=2):=by
 unfold opF at h ⊢
 cases hm:U.mayB next with
 | false=>exact .inl ⟨rfl,by simp⟩
 | true=>
  rw [hm] at h
  simp only [Bool.true_eq_false,if_false] at h ⊢
  by_cases h1:200<s.size
  ·exact .inr (.inl ⟨trivial,h1,by rw [if_pos h1]⟩)
  ·rw [if_neg h1] at h ⊢
   by_cases h2:rdP s next=none
   ·exact .inr (.inr ⟨trivial,by omega,h2,by rw [if_pos h2]⟩)
   ·rw [if_neg h2] at h;exact absurd rfl h
theorem zv0 {s:ByteArray} {next:Int} (h:opF s next=0):U.mayB next=true∧s.size≤200∧∃n l,rdP s next=some (n,l):=by
 unfold opF at h
 cases hm:U.mayB next with
 | false=>rw [hm] at h;simp at h
 | true=>
  rw [hm] at h
  simp only [Bool.true_eq_false,if_false] at h
  by_cases h1:200<s.size
  ·rw [if_pos h1] at h;cases h
  ·rw [if_neg h1] at h
   cases h2:rdP s next with
   | none=>rw [if_pos h2] at h;cases h
   | some x=>exact ⟨rfl,by omega,x.1,x.2,rfl⟩
theorem zCh {s:ByteArray} {next n:Int} {l:List F} (hm:U.mayB next=true) (hl:s.size≤200) (h:rdP s next=some (n,l)):opF s next=0:=by
 unfold opF
 rw [if_neg (by rw [hm];decide),if_neg (by omega),if_neg (by rw [h];simp)]
theorem zHu {s:ByteArray} {next:Int} (h:rdP s next=none):rdN s next=none∨∃n c,rdN s next=some (n,c)∧fin (rdL (s.extract c s.size))=none:=by
 unfold rdP at h
 cases h1:rdN s next with
 | none=>exact .inl rfl
 | some x=>
  obtain ⟨n,c⟩:=x
  rw [h1,Option.bind_some] at h
  cases h2:fin (rdL (s.extract c s.size)) with
  | none=>exact .inr ⟨n,c,rfl,h2⟩
  | some l=>rw [h2] at h;cases h
theorem zj6 {s:ByteArray} {next n:Int} {l:List F} (h:rdP s next=some (n,l)):∃c,rdN s next=some (n,c)∧fin (rdL (s.extract c s.size))=some l:=by
 unfold rdP at h
 cases h1:rdN s next with
 | none=>rw [h1] at h;cases h
 | some x=>
  obtain ⟨n',c⟩:=x
  rw [h1,Option.bind_some] at h
  cases h2:fin (rdL (s.extract c s.size)) with
  | none=>rw [h2] at h;cases h
  | some l'=>
   rw [h2] at h
   simp only [Option.map_some,Option.some.injEq,Prod.mk.injEq] at h
   obtain ⟨rfl,rfl⟩:=h
   exact ⟨c,rfl,h2⟩
theorem zoo (s:ByteArray) (next:Int) (w:World) (hF:V.Forms w) (hC:Cnts w) (hl:s.size≤9223372036854775807) (h:opF s next≠0):Calls Tryz.prog 52 #[.string s,.int .i64 next] w fun e w'=>e= .returned (.tuple #[.int .i64 0,.slice none 0 0,errV (opF s next)])∧Below w.heap.size w w':=by
 rcases zCy h with ⟨hm,e⟩ | ⟨hm,h1,e⟩ | ⟨hm,h1,h2,e⟩
 ·rw [e]
  rcases U.zhp hm with h | h
  ·exact zA1 s next w h
  ·exact zzx s next w (by omega) h
 ·rw [e];exact zCo s next w hm h1 hl
 ·rw [e]
  rcases zHu h2 with h3 | ⟨n,c,h3,h4⟩
  ·exact zAs s next w hm h1 h3
  ·exact zCf s next w hF hC hm h1 n c h3 h4
theorem zev (s:ByteArray) (next:Int) (w:World) (hF:V.Forms w) (hC:Cnts w) (hm:U.mayB next=true) (hl:s.size≤200) (n:Int) (l:List F) (h:rdP s next=some (n,l)):Calls Tryz.prog 52 #[.string s,.int .i64 next] w fun e w'=>∃v us,e= .returned (.tuple #[.int .i64 n,v,.nilIface])∧FOwn w' w.heap.size v us l∧Below w.heap.size w w':=by
 obtain ⟨c,h1,h2⟩:=zj6 h
 exact zBd s next w hF hC hm hl n c h1 l h2
end Go.Proofs.YtdnehibcpkjafaaGreatDoor
