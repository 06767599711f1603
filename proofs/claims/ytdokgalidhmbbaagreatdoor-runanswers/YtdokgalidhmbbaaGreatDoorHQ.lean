/- What the law RunAnswers needs. -/
import Derived.Test.YtdokgalidhmbbaaGreatDoorHF
import Derived.Deep.RegionHeld3
set_option linter.unusedVariables false
set_option linter.unusedSimpArgs false
set_option maxRecDepth 100000
set_option maxHeartbeats 8000000
namespace Go.Proofs.YtdokgalidhmbbaaGreatDoor.U
open Go.RowKit
def zH(n:Int):Bool:=decide (0<=n/\n<=1073741823)
variable {n:Int}
theorem zo(h:zH n=true):0<=n/\n<=1073741823:=of_decide_eq_true h
theorem Zb(h:zH n=false):n<0\/1073741823<n:=by
 have:¬(0<=n/\n<=1073741823):=of_decide_eq_false h;omega
theorem zih(n:Int)(w:World)(a:0<=n)(b:n<=1073741823):
  Cs 110 #[.int .i64 n] w (.bool true):=by
 go_enter Tryz.func110,Tryz.ntmps110
 go_wp2;go_ret;exact⟨rfl,rfl⟩
theorem zif(n:Int)(w:World)(a:n<0):
  Cs 110 #[.int .i64 n] w (.bool false):=by
 go_enter Tryz.func110,Tryz.ntmps110
 go_wp2;go_ret;exact⟨rfl,rfl⟩
theorem zie(n:Int)(w:World)(a:1073741823<n):
  Cs 110 #[.int .i64 n] w (.bool false):=by
 go_enter Tryz.func110,Tryz.ntmps110
 go_wp2;go_ret;exact⟨by simp<;>omega,rfl⟩
theorem isnum(n:Int)(w:World):
  Cs 110 #[.int .i64 n] w (.bool (zH n)):=by
 cases h:zH n with
 |true=>exact zih n w (zo h).1 (zo h).2
 |false=>
  rcases Zb h with h|h;exact zif n w h;exact zie n w h
def qG(b:Int):Bool:=decide (1<=b/\b<=4)
variable {b:Int}
theorem vD(h:qG b=true):b=1\/b=2\/b=3\/b=4:=by
 have:1<=b/\b<=4:=of_decide_eq_true h;omega
theorem aA(h:qG b=false):b<1\/4<b:=by
 have:¬(1<=b/\b<=4):=of_decide_eq_false h;omega
theorem zid(b:Int)(w:World)(a:1<=b)(c:b<=4):
  Cs 204 #[.int .i64 b] w (.bool true):=by
 go_enter Tryz.func204,Tryz.ntmps204
 go_wp2;go_ret;exact⟨rfl,rfl⟩
theorem zic(b:Int)(w:World)(a:b<1):
  Cs 204 #[.int .i64 b] w (.bool false):=by
 go_enter Tryz.func204,Tryz.ntmps204
 go_wp2;go_ret;exact⟨rfl,rfl⟩
theorem zib(b:Int)(w:World)(a:4<b):
  Cs 204 #[.int .i64 b] w (.bool false):=by
 go_enter Tryz.func204,Tryz.ntmps204
 go_wp2;go_ret;exact⟨by simp<;>omega,rfl⟩
theorem wE(b:Int)(w:World):
  Cs 204 #[.int .i64 b] w (.bool (qG b)):=by
 cases h:qG b with
 |true=>exact zid b w (by rcases vD h with h|h|h|h<;>omega) (by rcases vD h with h|h|h|h<;>omega)
 |false=>
  rcases aA h with h|h;exact zic b w h;exact zib b w h
def zA(b:Int):Int:=if b=1 then 256 else if b=2 then 65536 else if b=3 then 16777216 else 4294967296
theorem qA(b:Int):256<=zA b/\zA b<=4294967296:=by unfold zA;repeat' split<;>omega
theorem QE(w:World):
  Cs 111 #[.int .i64 1] w (.int .i64 256):=by
 go_enter Tryz.func111,Tryz.ntmps111
 go_wp2;go_ret;exact⟨rfl,rfl⟩
theorem XE(w:World):
  Cs 111 #[.int .i64 2] w (.int .i64 65536):=by
 go_enter Tryz.func111,Tryz.ntmps111
 go_wp2;go_ret;exact⟨rfl,rfl⟩
theorem Ji(w:World):
  Cs 111 #[.int .i64 3] w (.int .i64 16777216):=by
 go_enter Tryz.func111,Tryz.ntmps111
 go_wp2;go_ret;exact⟨rfl,rfl⟩
theorem YD(w:World):
  Cs 111 #[.int .i64 4] w (.int .i64 4294967296):=by
 go_enter Tryz.func111,Tryz.ntmps111
 go_wp2;go_ret;exact⟨rfl,rfl⟩
theorem cuts(b:Int)(w:World)(h:qG b=true):
  Cs 111 #[.int .i64 b] w (.int .i64 (zA b)):=by
 rcases vD h with rfl|rfl|rfl|rfl;exact QE w;exact XE w;exact Ji w;exact YD w
theorem zdi(n b:Int)(w:World)(h:zH n=true)(a:qG b=true):
  Cs 176 #[.int .i64 n,.int .i64 b] w (.tuple #[.int .i64 (n%zA b),.nilIface]):=by
 obtain⟨d,g⟩:=zo h;go_enter Tryz.func176,Tryz.ntmps176
 go_wp2_with fail;refine(isnum n _).mono ?_;rintro e c ⟨rfl,rfl⟩;rw[h];go_wp2_with fail;refine(wE b _).mono ?_;rintro e c ⟨rfl,rfl⟩;rw[a];go_wp2_with fail;refine(cuts b _ a).mono ?_;rintro e c ⟨rfl,rfl⟩;have hr:256<=zA b/\zA b<=4294967296:=qA b;generalize f:zA b=r at hr |-;obtain⟨k,l⟩:=hr;have m:n.tmod r=n%r:=Int.tmod_eq_emod_of_nonneg d;have i:0<=n%r:=Int.emod_nonneg n (by omega);have j:n%r<r:=Int.emod_lt_of_pos n (by omega)
 go_wp2;go_ret2
 rw[<-f];exact⟨rfl,rfl⟩
def need(n a:Int):Int:=if 2*(n-a)<=256 then 1 else if 2*(n-a)<=65536 then 2 else if 2*(n-a)<=16777216 then 3 else 4
theorem yK(n a:Int):qG (need n a)=true:=by unfold need;(repeat' split)<;>rfl
def qb(n a:Int):Bool:=decide (0<=n/\n<=1073741823/\ -1<=a/\a<n)
theorem wL{a:Int}(h:qb n a=true):0<=n/\n<=1073741823/\ -1<=a/\a<n:=of_decide_eq_true h
theorem zlz{d:Int}(h:qb n d=false):zH n=false\/(zH n=true/\d< -1)\/(zH n=true/\ -1<=d/\n<=d):=by
 have f:¬(0<=n/\n<=1073741823/\ -1<=d/\d<n):=of_decide_eq_false h
 cases e:zH n with
 |false=>exact Or.inl rfl
 |true=>
  obtain⟨a,b⟩:=zo e;right;by_cases c:d< -1;exact Or.inl ⟨rfl,c⟩;exact Or.inr ⟨rfl,by omega,by omega⟩
theorem zkq(n k:Int)(w:World)(h:zH n=false):
  Cs 83 #[.int .i64 n,.int .i64 k] w (.tuple #[.int .i64 0,.iface 133 (.int .i64 1)]):=by
 go_enter Tryz.func83,Tryz.ntmps83
 go_wp2_with fail;refine(isnum n _).mono ?_;rintro e a ⟨rfl,rfl⟩;rw[h];go_wp2;go_ret2
 exact⟨rfl,rfl⟩
theorem zkr(n k:Int)(w:World)(h:zH n=true)(a:k< -1):
  Cs 83 #[.int .i64 n,.int .i64 k] w (.tuple #[.int .i64 0,.iface 133 (.int .i64 1)]):=by
 go_enter Tryz.func83,Tryz.ntmps83
 go_wp2_with fail;refine(isnum n _).mono ?_;rintro e b ⟨rfl,rfl⟩;rw[h];go_wp2;go_ret2
 exact⟨rfl,rfl⟩
theorem zks(n k:Int)(w:World)(h:zH n=true)(a: -1<=k)(b:n<=k):
  Cs 83 #[.int .i64 n,.int .i64 k] w (.tuple #[.int .i64 0,.iface 133 (.int .i64 1)]):=by
 go_enter Tryz.func83,Tryz.ntmps83
 go_wp2_with fail;refine(isnum n _).mono ?_;rintro e c ⟨rfl,rfl⟩;rw[h];go_wp2;go_ret2
 exact⟨rfl,rfl⟩
theorem Xd(n k:Int)(w:World)(h:qb n k=false):
  Cs 83 #[.int .i64 n,.int .i64 k] w (.tuple #[.int .i64 0,.iface 133 (.int .i64 1)]):=by
 rcases zlz h with h|⟨h,a⟩|⟨h,a,b⟩;exact zkq n k w h;exact zkr n k w h a;exact zks n k w h a b
theorem zkm(n k:Int)(w:World)(h:qb n k=true)(i:2*(n-k)<=256):
  Cs 83 #[.int .i64 n,.int .i64 k] w (.tuple #[.int .i64 1,.nilIface]):=by
 obtain⟨a,b,f,g⟩:=wL h;have c:zH n=true:=decide_eq_true ⟨a,b⟩;go_enter Tryz.func83,Tryz.ntmps83
 go_wp2_with fail;refine(isnum n _).mono ?_;rintro e d ⟨rfl,rfl⟩;rw[c];go_wp2_with fail;refine wp_loop_rounds 2 ?_;rw[rounds_succ];go_wp2_with fail;refine(QE _).mono ?_;rintro e d ⟨rfl,rfl⟩;go_wp2_with fail;go_ret2
 exact⟨rfl,rfl⟩
theorem zkn(n k:Int)(w:World)(h:qb n k=true)(j:256<2*(n-k))(i:2*(n-k)<=65536):
  Cs 83 #[.int .i64 n,.int .i64 k] w (.tuple #[.int .i64 2,.nilIface]):=by
 obtain⟨b,c,f,g⟩:=wL h;have d:zH n=true:=decide_eq_true ⟨b,c⟩;go_enter Tryz.func83,Tryz.ntmps83
 go_wp2_with fail;refine(isnum n _).mono ?_;rintro e a ⟨rfl,rfl⟩;rw[d];go_wp2_with fail;refine wp_loop_rounds 3 ?_;rw[rounds_succ];go_wp2_with fail;refine(QE _).mono ?_;rintro e a ⟨rfl,rfl⟩;go_wp2_with fail;rw[rounds_succ];go_wp2_with fail;refine(XE _).mono ?_;rintro e a ⟨rfl,rfl⟩;go_wp2_with fail;go_ret2
 exact⟨rfl,rfl⟩
theorem zko(n k:Int)(w:World)(h:qb n k=true)(j:65536<2*(n-k))(i:2*(n-k)<=16777216):
  Cs 83 #[.int .i64 n,.int .i64 k] w (.tuple #[.int .i64 3,.nilIface]):=by
 obtain⟨b,c,f,g⟩:=wL h;have d:zH n=true:=decide_eq_true ⟨b,c⟩;go_enter Tryz.func83,Tryz.ntmps83
 go_wp2_with fail;refine(isnum n _).mono ?_;rintro e a ⟨rfl,rfl⟩;rw[d];go_wp2_with fail;refine wp_loop_rounds 4 ?_;rw[rounds_succ];go_wp2_with fail;refine(QE _).mono ?_;rintro e a ⟨rfl,rfl⟩;go_wp2_with fail;rw[rounds_succ];go_wp2_with fail;refine(XE _).mono ?_;rintro e a ⟨rfl,rfl⟩;go_wp2_with fail;rw[rounds_succ];go_wp2_with fail;refine(Ji _).mono ?_;rintro e a ⟨rfl,rfl⟩;go_wp2_with fail;go_ret2
 exact⟨rfl,rfl⟩
theorem zkp(n k:Int)(w:World)(h:qb n k=true)(i:16777216<2*(n-k)):
  Cs 83 #[.int .i64 n,.int .i64 k] w (.tuple #[.int .i64 4,.nilIface]):=by
 obtain⟨b,c,f,g⟩:=wL h;have d:zH n=true:=decide_eq_true ⟨b,c⟩;go_enter Tryz.func83,Tryz.ntmps83
 go_wp2_with fail;refine(isnum n _).mono ?_;rintro e a ⟨rfl,rfl⟩;rw[d];go_wp2_with fail;refine wp_loop_rounds 5 ?_;rw[rounds_succ];go_wp2_with fail;refine(QE _).mono ?_;rintro e a ⟨rfl,rfl⟩;go_wp2_with fail;rw[rounds_succ];go_wp2_with fail;refine(XE _).mono ?_;rintro e a ⟨rfl,rfl⟩;go_wp2_with fail;rw[rounds_succ];go_wp2_with fail;refine(Ji _).mono ?_;rintro e a ⟨rfl,rfl⟩;go_wp2_with fail;rw[rounds_succ]
 go_wp2_with fail;refine(YD _).mono ?_;rintro e a ⟨rfl,rfl⟩;go_wp2_with fail;go_ret2
 exact⟨rfl,rfl⟩
theorem Xe(n k:Int)(w:World)(h:qb n k=true):
  Cs 83 #[.int .i64 n,.int .i64 k] w (.tuple #[.int .i64 (need n k),.nilIface]):=by
 by_cases a:2*(n-k)<=256;have e:need n k=1:=by simp[need,a]
 rw[e];exact zkm n k w h a;by_cases b:2*(n-k)<=65536;have e:need n k=2:=by simp[need,a,b]
 rw[e];exact zkn n k w h (by omega) b;by_cases c:2*(n-k)<=16777216;have e:need n k=3:=by simp[need,a,b,c]
 rw[e];exact zko n k w h (by omega) c;have e:need n k=4:=by simp[need,a,b,c]
 rw[e];exact zkp n k w h (by omega)
theorem ZH{r:Int}(a:0<=n)(b:0<r):n%r<=n:=by
 by_cases h:n<r;rw [Int.emod_eq_of_lt a h];exact Int.le_refl _;have:=Int.emod_lt_of_pos n b;omega
def near(b r a:Int):Int:=
 if a-a%r+b<a/\zH (a-a%r+b+r)=true/\a-a%r+b+r-a<=a-(a-a%r+b)then a-a%r+b+r
 else if a<a-a%r+b/\zH (a-a%r+b-r)=true/\a-(a-a%r+b-r)<a-a%r+b-a then a-a%r+b-r
 else a-a%r+b
def jI(a b c:Int):Bool:=zH c && qG b && zH a && decide (a<zA b)
theorem zuq(c b a:Int)(w:World)(d:zH a=false):
  Cs 178 #[.int .i64 c,.int .i64 b,.int .i64 a] w (.tuple #[.int .i64 0,.iface 133 (.int .i64 1)]):=by
 go_enter Tryz.func178,Tryz.ntmps178
 go_wp2_with fail;refine(isnum a _).mono ?_;rintro e f ⟨rfl,rfl⟩;rw[d];go_wp2;go_ret2
 exact⟨rfl,rfl⟩
theorem zur(c b a:Int)(w:World)(f:zH a=true)(d:qG b=false):
  Cs 178 #[.int .i64 c,.int .i64 b,.int .i64 a] w (.tuple #[.int .i64 0,.iface 133 (.int .i64 1)]):=by
 go_enter Tryz.func178,Tryz.ntmps178
 go_wp2_with fail;refine(isnum a _).mono ?_;rintro e g ⟨rfl,rfl⟩;rw[f];go_wp2_with fail;refine(wE b _).mono ?_;rintro e g ⟨rfl,rfl⟩;rw[d];go_wp2;go_ret2
 exact⟨rfl,rfl⟩
theorem zus(a b c:Int)(w:World)(h:zH c=true)(f:qG b=true)(g:zH a=false):
  Cs 178 #[.int .i64 a,.int .i64 b,.int .i64 c] w (.tuple #[.int .i64 0,.iface 133 (.int .i64 1)]):=by
 go_enter Tryz.func178,Tryz.ntmps178
 go_wp2_with fail;refine(isnum c _).mono ?_;rintro e d ⟨rfl,rfl⟩;rw[h];go_wp2_with fail;refine(wE b _).mono ?_;rintro e d ⟨rfl,rfl⟩;rw[f];go_wp2_with fail;refine(isnum a _).mono ?_;rintro e d ⟨rfl,rfl⟩;rw[g];go_wp2;go_ret2
 exact⟨rfl,rfl⟩
theorem zut(a b c:Int)(w:World)(h:zH c=true)(f:qG b=true)(g:zH a=true)(i:zA b<=a):
  Cs 178 #[.int .i64 a,.int .i64 b,.int .i64 c] w (.tuple #[.int .i64 0,.iface 133 (.int .i64 1)]):=by
 go_enter Tryz.func178,Tryz.ntmps178
 go_wp2_with fail;refine(isnum c _).mono ?_;rintro e d ⟨rfl,rfl⟩;rw[h];go_wp2_with fail;refine(wE b _).mono ?_;rintro e d ⟨rfl,rfl⟩;rw[f];go_wp2_with fail;refine(isnum a _).mono ?_;rintro e d ⟨rfl,rfl⟩;rw[g];go_wp2_with fail;refine(cuts b _ f).mono ?_;rintro e d ⟨rfl,rfl⟩;go_wp2;go_ret2
 exact⟨rfl,rfl⟩
theorem iM(a b c:Int)(w:World)(h:jI a b c=false):
  Cs 178 #[.int .i64 a,.int .i64 b,.int .i64 c] w (.tuple #[.int .i64 0,.iface 133 (.int .i64 1)]):=by
 cases d:zH c with
 |false=>exact zuq a b c w d
 |true=>
  cases f:qG b with
  |false=>exact zur a b c w d f
  |true=>
   cases g:zH a with
   |false=>exact zus a b c w d f g
   |true=>
    refine zut a b c w d f g ?_;by_cases i:a<zA b;simp [jI,d,f,g,i]at h;.omega
theorem zuj(c b a:Int)(w:World)(h:zH a=true)(f:qG b=true)(g:zH c=true)(i:c<zA b)
  (s:a-a%zA b+c<a) (t2:zH (a-a%zA b+c+zA b)=true) (t:a-a%zA b+c+zA b-a<=a-(a-a%zA b+c)):
  Cs 178 #[.int .i64 c,.int .i64 b,.int .i64 a] w (.tuple #[.int .i64 (a-a%zA b+c+zA b),.nilIface]):=by
 obtain⟨q,x⟩:=zo h;obtain⟨u,v⟩:=zo g;have j:0<=a%zA b:=Int.emod_nonneg a (by have:=qA b;omega);have k:a%zA b<zA b:=Int.emod_lt_of_pos a (by have:=qA b;omega);have l:a%zA b<=a:=ZH q (by have:=qA b;omega);go_enter Tryz.func178,Tryz.ntmps178
 go_wp2_with fail;refine(isnum a _).mono ?_;rintro e d ⟨rfl,rfl⟩;rw[h];go_wp2_with fail;refine(wE b _).mono ?_;rintro e d ⟨rfl,rfl⟩;rw[f];go_wp2_with fail;refine(isnum c _).mono ?_;rintro e d ⟨rfl,rfl⟩;rw[g];go_wp2_with fail;refine(cuts b _ f).mono ?_;rintro e d ⟨rfl,rfl⟩;go_wp2_with fail;refine(cuts b _ f).mono ?_;rintro e d ⟨rfl,rfl⟩;obtain⟨m,n⟩:=qA b;generalize p:zA b=r at m n j k l i s t2 t |-
 go_wp2_with fail;refine(isnum (a-a%r+c+r) _).mono ?_;rintro e d ⟨rfl,rfl⟩;rw[t2];go_wp2;go_ret2
 rw[<-p];exact⟨rfl,rfl⟩
theorem zuk(c b a:Int)(w:World)(h:zH a=true)(f:qG b=true)(g:zH c=true)(i:c<zA b)
  (s:a-a%zA b+c<a) (t2:zH (a-a%zA b+c+zA b)=true) (t:a-(a-a%zA b+c)<a-a%zA b+c+zA b-a):
  Cs 178 #[.int .i64 c,.int .i64 b,.int .i64 a] w (.tuple #[.int .i64 (a-a%zA b+c),.nilIface]):=by
 obtain⟨q,x⟩:=zo h;obtain⟨u,v⟩:=zo g;have j:0<=a%zA b:=Int.emod_nonneg a (by have:=qA b;omega);have k:a%zA b<zA b:=Int.emod_lt_of_pos a (by have:=qA b;omega);have l:a%zA b<=a:=ZH q (by have:=qA b;omega);go_enter Tryz.func178,Tryz.ntmps178
 go_wp2_with fail;refine(isnum a _).mono ?_;rintro e d ⟨rfl,rfl⟩;rw[h];go_wp2_with fail;refine(wE b _).mono ?_;rintro e d ⟨rfl,rfl⟩;rw[f];go_wp2_with fail;refine(isnum c _).mono ?_;rintro e d ⟨rfl,rfl⟩;rw[g];go_wp2_with fail;refine(cuts b _ f).mono ?_;rintro e d ⟨rfl,rfl⟩;go_wp2_with fail;refine(cuts b _ f).mono ?_;rintro e d ⟨rfl,rfl⟩;obtain⟨m,n⟩:=qA b;generalize p:zA b=r at m n j k l i s t2 t |-
 go_wp2_with fail;refine(isnum (a-a%r+c+r) _).mono ?_;rintro e d ⟨rfl,rfl⟩;rw[t2];go_wp2;go_ret2
 rw[<-p];exact⟨rfl,rfl⟩
theorem zul(c b a:Int)(w:World)(h:zH a=true)(f:qG b=true)(g:zH c=true)(i:c<zA b)
  (s:a-a%zA b+c<a) (t2:zH (a-a%zA b+c+zA b)=false):
  Cs 178 #[.int .i64 c,.int .i64 b,.int .i64 a] w (.tuple #[.int .i64 (a-a%zA b+c),.nilIface]):=by
 obtain⟨q,v⟩:=zo h;obtain⟨t,u⟩:=zo g;have j:0<=a%zA b:=Int.emod_nonneg a (by have:=qA b;omega);have k:a%zA b<zA b:=Int.emod_lt_of_pos a (by have:=qA b;omega);have l:a%zA b<=a:=ZH q (by have:=qA b;omega);go_enter Tryz.func178,Tryz.ntmps178
 go_wp2_with fail;refine(isnum a _).mono ?_;rintro e d ⟨rfl,rfl⟩;rw[h];go_wp2_with fail;refine(wE b _).mono ?_;rintro e d ⟨rfl,rfl⟩;rw[f];go_wp2_with fail;refine(isnum c _).mono ?_;rintro e d ⟨rfl,rfl⟩;rw[g];go_wp2_with fail;refine(cuts b _ f).mono ?_;rintro e d ⟨rfl,rfl⟩;go_wp2_with fail;refine(cuts b _ f).mono ?_;rintro e d ⟨rfl,rfl⟩;obtain⟨m,n⟩:=qA b;generalize p:zA b=r at m n j k l i s t2 |-;go_wp2_with fail
 refine(isnum (a-a%r+c+r) _).mono ?_;rintro e d ⟨rfl,rfl⟩;rw[t2];go_wp2;go_ret2
 rw[<-p];exact⟨rfl,rfl⟩
theorem zum(c b a:Int)(w:World)(h:zH a=true)(f:qG b=true)(g:zH c=true)(i:c<zA b)
  (s:a-a%zA b+c=a):
  Cs 178 #[.int .i64 c,.int .i64 b,.int .i64 a] w (.tuple #[.int .i64 (a),.nilIface]):=by
 obtain⟨q,v⟩:=zo h;obtain⟨t,u⟩:=zo g;have j:0<=a%zA b:=Int.emod_nonneg a (by have:=qA b;omega);have k:a%zA b<zA b:=Int.emod_lt_of_pos a (by have:=qA b;omega);have l:a%zA b<=a:=ZH q (by have:=qA b;omega);go_enter Tryz.func178,Tryz.ntmps178
 go_wp2_with fail;refine(isnum a _).mono ?_;rintro e d ⟨rfl,rfl⟩;rw[h];go_wp2_with fail;refine(wE b _).mono ?_;rintro e d ⟨rfl,rfl⟩;rw[f];go_wp2_with fail;refine(isnum c _).mono ?_;rintro e d ⟨rfl,rfl⟩;rw[g];go_wp2_with fail;refine(cuts b _ f).mono ?_;rintro e d ⟨rfl,rfl⟩;go_wp2_with fail;refine(cuts b _ f).mono ?_;rintro e d ⟨rfl,rfl⟩;obtain⟨m,n⟩:=qA b;generalize p:zA b=r at m n j k l i s |-;go_wp2
 go_ret2
 rw[<-p];exact⟨rfl,rfl⟩
theorem zun(c b a:Int)(w:World)(h:zH a=true)(f:qG b=true)(g:zH c=true)(i:c<zA b)
  (s:a<a-a%zA b+c) (t2:zH (a-a%zA b+c-zA b)=true) (t:a-(a-a%zA b+c-zA b)<a-a%zA b+c-a):
  Cs 178 #[.int .i64 c,.int .i64 b,.int .i64 a] w (.tuple #[.int .i64 (a-a%zA b+c-zA b),.nilIface]):=by
 obtain⟨q,x⟩:=zo h;obtain⟨u,v⟩:=zo g;have j:0<=a%zA b:=Int.emod_nonneg a (by have:=qA b;omega);have k:a%zA b<zA b:=Int.emod_lt_of_pos a (by have:=qA b;omega);have l:a%zA b<=a:=ZH q (by have:=qA b;omega);go_enter Tryz.func178,Tryz.ntmps178
 go_wp2_with fail;refine(isnum a _).mono ?_;rintro e d ⟨rfl,rfl⟩;rw[h];go_wp2_with fail;refine(wE b _).mono ?_;rintro e d ⟨rfl,rfl⟩;rw[f];go_wp2_with fail;refine(isnum c _).mono ?_;rintro e d ⟨rfl,rfl⟩;rw[g];go_wp2_with fail;refine(cuts b _ f).mono ?_;rintro e d ⟨rfl,rfl⟩;go_wp2_with fail;refine(cuts b _ f).mono ?_;rintro e d ⟨rfl,rfl⟩;obtain⟨m,n⟩:=qA b;generalize p:zA b=r at m n j k l i s t2 t |-
 go_wp2_with fail;refine(isnum (a-a%r+c-r) _).mono ?_;rintro e d ⟨rfl,rfl⟩;rw[t2];go_wp2;go_ret2
 rw[<-p];exact⟨rfl,rfl⟩
theorem zuo(c b a:Int)(w:World)(h:zH a=true)(f:qG b=true)(g:zH c=true)(i:c<zA b)
  (s:a<a-a%zA b+c) (t2:zH (a-a%zA b+c-zA b)=true) (t:a-a%zA b+c-a<=a-(a-a%zA b+c-zA b)):
  Cs 178 #[.int .i64 c,.int .i64 b,.int .i64 a] w (.tuple #[.int .i64 (a-a%zA b+c),.nilIface]):=by
 obtain⟨q,x⟩:=zo h;obtain⟨u,v⟩:=zo g;have j:0<=a%zA b:=Int.emod_nonneg a (by have:=qA b;omega);have k:a%zA b<zA b:=Int.emod_lt_of_pos a (by have:=qA b;omega);have l:a%zA b<=a:=ZH q (by have:=qA b;omega);go_enter Tryz.func178,Tryz.ntmps178
 go_wp2_with fail;refine(isnum a _).mono ?_;rintro e d ⟨rfl,rfl⟩;rw[h];go_wp2_with fail;refine(wE b _).mono ?_;rintro e d ⟨rfl,rfl⟩;rw[f];go_wp2_with fail;refine(isnum c _).mono ?_;rintro e d ⟨rfl,rfl⟩;rw[g];go_wp2_with fail;refine(cuts b _ f).mono ?_;rintro e d ⟨rfl,rfl⟩;go_wp2_with fail;refine(cuts b _ f).mono ?_;rintro e d ⟨rfl,rfl⟩;obtain⟨m,n⟩:=qA b;generalize p:zA b=r at m n j k l i s t2 t |-
 go_wp2_with fail;refine(isnum (a-a%r+c-r) _).mono ?_;rintro e d ⟨rfl,rfl⟩;rw[t2];go_wp2;go_ret2
 rw[<-p];exact⟨rfl,rfl⟩
theorem zup(c b a:Int)(w:World)(h:zH a=true)(f:qG b=true)(g:zH c=true)(i:c<zA b)
  (s:a<a-a%zA b+c) (t2:zH (a-a%zA b+c-zA b)=false):
  Cs 178 #[.int .i64 c,.int .i64 b,.int .i64 a] w (.tuple #[.int .i64 (a-a%zA b+c),.nilIface]):=by
 obtain⟨q,v⟩:=zo h;obtain⟨t,u⟩:=zo g;have j:0<=a%zA b:=Int.emod_nonneg a (by have:=qA b;omega);have k:a%zA b<zA b:=Int.emod_lt_of_pos a (by have:=qA b;omega);have l:a%zA b<=a:=ZH q (by have:=qA b;omega);go_enter Tryz.func178,Tryz.ntmps178
 go_wp2_with fail;refine(isnum a _).mono ?_;rintro e d ⟨rfl,rfl⟩;rw[h];go_wp2_with fail;refine(wE b _).mono ?_;rintro e d ⟨rfl,rfl⟩;rw[f];go_wp2_with fail;refine(isnum c _).mono ?_;rintro e d ⟨rfl,rfl⟩;rw[g];go_wp2_with fail;refine(cuts b _ f).mono ?_;rintro e d ⟨rfl,rfl⟩;go_wp2_with fail;refine(cuts b _ f).mono ?_;rintro e d ⟨rfl,rfl⟩;obtain⟨m,n⟩:=qA b;generalize p:zA b=r at m n j k l i s t2 |-;go_wp2_with fail
 refine(isnum (a-a%r+c-r) _).mono ?_;rintro e d ⟨rfl,rfl⟩;rw[t2];go_wp2;go_ret2
 rw[<-p];exact⟨rfl,rfl⟩
theorem zuu(c b a:Int)(w:World)(h:jI c b a=true):
  Cs 178 #[.int .i64 c,.int .i64 b,.int .i64 a] w (.tuple #[.int .i64 (near c (zA b) a),.nilIface]):=by
 obtain⟨⟨⟨j,f⟩,g⟩,i⟩:((zH a=true/\qG b=true)/\zH c=true)/\c<zA b:=by simpa[jI]using h
 by_cases l:a-a%zA b+c<a;cases d:zH (a-a%zA b+c+zA b)with
 |false=>
  have e:near c (zA b) a=a-a%zA b+c:=by unfold near;rw[if_neg (by rw[d];simp),if_neg (by omega)]
  rw[e];exact zul c b a w j f g i l d
 |true=>
  by_cases k:a-a%zA b+c+zA b-a<=a-(a-a%zA b+c);have e:near c (zA b) a=a-a%zA b+c+zA b:=by unfold near;rw[if_pos ⟨l,d,k⟩]
  rw[e];exact zuj c b a w j f g i l d k;have e:near c (zA b) a=a-a%zA b+c:=by unfold near;rw[if_neg (λh=>k h.2.2),if_neg (by omega)]
  rw[e];exact zuk c b a w j f g i l d (by omega)
 by_cases n:a-a%zA b+c=a;have e:near c (zA b) a=a:=by unfold near;rw[if_neg (by omega),if_neg (by omega)];exact n
 rw[e];exact zum c b a w j f g i n;have m:a<a-a%zA b+c:=by omega
 cases d:zH (a-a%zA b+c-zA b)with
 |false=>
  have e:near c (zA b) a=a-a%zA b+c:=by unfold near;rw[if_neg (by omega),if_neg (by rw[d];simp)]
  rw[e];exact zup c b a w j f g i m d
 |true=>
  by_cases k:a-(a-a%zA b+c-zA b)<a-a%zA b+c-a;have e:near c (zA b) a=a-a%zA b+c-zA b:=by unfold near;rw[if_neg (by omega),if_pos ⟨m,d,k⟩]
  rw[e];exact zun c b a w j f g i m d k;have e:near c (zA b) a=a-a%zA b+c:=by unfold near;rw[if_neg (by omega),if_neg (λh=>k h.2.2)]
  rw[e];exact zuo c b a w j f g i m d (by omega)
def far(x:Int):Int:=if x<0 then -x else x
theorem xG(n:Int):zH n=true↔0<=n/\n<=1073741823:=by simp[zH]
theorem JX(a b c:Int):jI a b c=true↔((zH c=true/\qG b=true)/\zH a=true)/\a<zA b:=by simp[jI]
theorem aB(h:qG b=true):zA b=256\/zA b=65536\/zA b=16777216\/zA b=4294967296:=by
 rcases vD h with rfl|rfl|rfl|rfl<;>simp[zA]
theorem V5:zA 1=256:=by simp[zA]
theorem V6:zA 2=65536:=by simp[zA]
theorem V7:zA 3=16777216:=by simp[zA]
theorem V8:zA 4=4294967296:=by simp[zA]
theorem aY(c b a:Int)(h:jI c b a=true):
  (0<=near c (zA b) a/\near c (zA b) a<=1073741823)/\near c (zA b) a%zA b=c/\
  (zA b<=near c (zA b) a->far (near c (zA b) a-a)<=far (near c (zA b) a-zA b-a))/\
  (near c (zA b) a+zA b<=1073741823->far (near c (zA b) a-a)<far (near c (zA b) a+zA b-a)):=by
 obtain⟨⟨⟨j,f⟩,g⟩,i⟩:=(JX _ _ _).1 h;obtain⟨m,n⟩:=zo j;obtain⟨k,l⟩:=zo g;rcases aB f with e|e|e|e
 all_goals
  rw[e]at i |-
  have hx:∃x,x=near c (zA b) a:=⟨_,rfl⟩
  rw[e]at hx
  obtain⟨x,hx⟩:=hx
  rw[<-hx]
  unfold near at hx
  simp only[xG]at hx
  unfold far
  split at hx
  .refine ⟨?_,?_,?_,?_⟩<;>(try intro d)<;>(repeat' split)<;>omega
  .split at hx
   .refine ⟨?_,?_,?_,?_⟩<;>(try intro d)<;>(repeat' split)<;>omega
   .refine ⟨?_,?_,?_,?_⟩<;>(try intro d)<;>(repeat' split)<;>omega
theorem Zo(w:World):
  Cs 45 #[.int .i64 1] w (.int .i64 256):=by
 go_enter Tryz.func45,Tryz.ntmps45
 go_wp2;refine wp_loop_rounds 3 ?_;rw[rounds_succ];go_wp2;rw[rounds_succ];go_wp2;go_ret;exact⟨rfl,rfl⟩
theorem Q8(w:World):
  Cs 45 #[.int .i64 2] w (.int .i64 65536):=by
 go_enter Tryz.func45,Tryz.ntmps45
 go_wp2;refine wp_loop_rounds 4 ?_;rw[rounds_succ];go_wp2;rw[rounds_succ];go_wp2;rw[rounds_succ];go_wp2;go_ret;exact⟨rfl,rfl⟩
theorem JA(w:World):
  Cs 45 #[.int .i64 3] w (.int .i64 16777216):=by
 go_enter Tryz.func45,Tryz.ntmps45
 go_wp2;refine wp_loop_rounds 5 ?_;rw[rounds_succ];go_wp2;rw[rounds_succ];go_wp2;rw[rounds_succ];go_wp2;rw[rounds_succ];go_wp2;go_ret;exact⟨rfl,rfl⟩
theorem fH(w:World):
  Cs 45 #[.int .i64 4] w (.int .i64 4294967296):=by
 go_enter Tryz.func45,Tryz.ntmps45
 go_wp2;refine wp_loop_rounds 6 ?_;rw[rounds_succ];go_wp2;rw[rounds_succ];go_wp2;rw[rounds_succ];go_wp2;rw[rounds_succ];go_wp2;rw[rounds_succ];go_wp2;go_ret;exact⟨rfl,rfl⟩
theorem round(b:Int)(w:World)(h:qG b=true):
  Cs 45 #[.int .i64 b] w (.int .i64 (zA b)):=by
 rcases vD h with rfl|rfl|rfl|rfl;exact Zo w;exact Q8 w;exact JA w;exact fH w
theorem zpw(n:Int)(w:World)(a:0<=n)(b:n<=1073741823):
  Cs 66 #[.int .i64 n] w (.bool true):=by
 go_enter Tryz.func66,Tryz.ntmps66
 go_wp2;go_ret;exact⟨rfl,rfl⟩
theorem zpv(n:Int)(w:World)(a:n<0):
  Cs 66 #[.int .i64 n] w (.bool false):=by
 go_enter Tryz.func66,Tryz.ntmps66
 go_wp2;go_ret;exact⟨rfl,rfl⟩
theorem zpu(n:Int)(w:World)(a:1073741823<n):
  Cs 66 #[.int .i64 n] w (.bool false):=by
 go_enter Tryz.func66,Tryz.ntmps66
 go_wp2;go_ret;exact⟨by simp<;>omega,rfl⟩
theorem jF(n:Int)(w:World):
  Cs 66 #[.int .i64 n] w (.bool (zH n)):=by
 cases h:zH n with
 |true=>exact zpw n w (zo h).1 (zo h).2
 |false=>
  rcases Zb h with h|h;exact zpv n w h;exact zpu n w h
theorem zpx(n k:Int)(w:World)(h:qb n k=true)(f:2*(n-k)<=256):
  Cs 29 #[.int .i64 n,.int .i64 k] w (.int .i64 1):=by
 obtain⟨a,b,c,d⟩:=wL h;go_enter Tryz.func29,Tryz.ntmps29
 go_wp2_with fail;refine wp_loop_rounds 2 ?_;rw[rounds_succ];go_wp2_with fail;refine(Zo _).mono ?_;rintro e g ⟨rfl,rfl⟩;go_wp2_with fail;go_ret;exact⟨rfl,rfl⟩
theorem zpy(n k:Int)(w:World)(h:qb n k=true)(i:256<2*(n-k))(g:2*(n-k)<=65536):
  Cs 29 #[.int .i64 n,.int .i64 k] w (.int .i64 2):=by
 obtain⟨b,c,d,f⟩:=wL h;go_enter Tryz.func29,Tryz.ntmps29
 go_wp2_with fail;refine wp_loop_rounds 3 ?_;rw[rounds_succ];go_wp2_with fail;refine(Zo _).mono ?_;rintro e a ⟨rfl,rfl⟩;go_wp2_with fail;rw[rounds_succ];go_wp2_with fail;refine(Q8 _).mono ?_;rintro e a ⟨rfl,rfl⟩;go_wp2_with fail;go_ret;exact⟨rfl,rfl⟩
theorem zpz(n k:Int)(w:World)(h:qb n k=true)(i:65536<2*(n-k))(g:2*(n-k)<=16777216):
  Cs 29 #[.int .i64 n,.int .i64 k] w (.int .i64 3):=by
 obtain⟨b,c,d,f⟩:=wL h;go_enter Tryz.func29,Tryz.ntmps29
 go_wp2_with fail;refine wp_loop_rounds 4 ?_;rw[rounds_succ];go_wp2_with fail;refine(Zo _).mono ?_;rintro e a ⟨rfl,rfl⟩;go_wp2_with fail;rw[rounds_succ];go_wp2_with fail;refine(Q8 _).mono ?_;rintro e a ⟨rfl,rfl⟩;go_wp2_with fail;rw[rounds_succ];go_wp2_with fail;refine(JA _).mono ?_;rintro e a ⟨rfl,rfl⟩;go_wp2_with fail;go_ret;exact⟨rfl,rfl⟩
theorem zp0(n k:Int)(w:World)(h:qb n k=true)(g:16777216<2*(n-k)):
  Cs 29 #[.int .i64 n,.int .i64 k] w (.int .i64 4):=by
 obtain⟨b,c,d,f⟩:=wL h;go_enter Tryz.func29,Tryz.ntmps29
 go_wp2_with fail;refine wp_loop_rounds 5 ?_;rw[rounds_succ];go_wp2_with fail;refine(Zo _).mono ?_;rintro e a ⟨rfl,rfl⟩;go_wp2_with fail;rw[rounds_succ];go_wp2_with fail;refine(Q8 _).mono ?_;rintro e a ⟨rfl,rfl⟩;go_wp2_with fail;rw[rounds_succ];go_wp2_with fail;refine(JA _).mono ?_;rintro e a ⟨rfl,rfl⟩;go_wp2_with fail;rw[rounds_succ];go_wp2_with fail;refine(fH _).mono ?_;rintro e a ⟨rfl,rfl⟩;go_wp2_with fail
 go_ret;exact⟨rfl,rfl⟩
theorem fG(n k:Int)(w:World)(h:qb n k=true):
  Cs 29 #[.int .i64 n,.int .i64 k] w (.int .i64 (need n k)):=by
 by_cases a:2*(n-k)<=256;have e:need n k=1:=by simp[need,a]
 rw[e];exact zpx n k w h a;by_cases b:2*(n-k)<=65536;have e:need n k=2:=by simp[need,a,b]
 rw[e];exact zpy n k w h (by omega) b;by_cases c:2*(n-k)<=16777216;have e:need n k=3:=by simp[need,a,b,c]
 rw[e];exact zpz n k w h (by omega) c;have e:need n k=4:=by simp[need,a,b,c]
 rw[e];exact zp0 n k w h (by omega)
def low(a r b:Int):Int:=if a<b then a+(b-a)/r*r else a
def Kg(b r a:Int):Int:=
 if 1073741823<low b r a+r\/a<low b r a then low b r a
 else if low b r a+r-a<=a-low b r a then low b r a+r else low b r a
theorem zkl(a b c:Int)(h:jI a b c=true):Kg a (zA b) c=near a (zA b) c:=by
 obtain⟨⟨⟨i,d⟩,f⟩,g⟩:=(JX _ _ _).1 h;obtain⟨m,n⟩:=zo i;obtain⟨j,k⟩:=zo f;rcases aB d with e|e|e|e
 all_goals
  rw[e]at g |-
  obtain⟨l,hlw⟩:∃x,x=low a (zA b) c:=⟨_,rfl⟩
  rw[e]at hlw
  obtain⟨x,hx⟩:∃x,x=near a (zA b) c:=⟨_,rfl⟩
  rw[e]at hx
  rw[<-hx]
  unfold Kg
  rw[<-hlw]
  unfold near at hx
  unfold low at hlw
  simp only[xG]at hx
  split at hlw<;>split at hx
  .split
   .omega
   .split<;>omega
  .split at hx
   .split
    .omega
    .split<;>omega
   .split
    .omega
    .split<;>omega
  .split
   .omega
   .split<;>omega
  .split at hx
   .split
    .omega
    .split<;>omega
   .split
    .omega
    .split<;>omega
theorem zq8(c b a:Int)(w:World)(d:zH a=false):
  Cs 89 #[.int .i64 c,.int .i64 b,.int .i64 a] w (.tuple #[.int .i64 0,.bool false]):=by
 go_enter Tryz.func89,Tryz.ntmps89
 go_wp2_with fail;refine(jF a _).mono ?_;rintro e f ⟨rfl,rfl⟩;rw[d];go_wp2;go_ret2
 exact⟨rfl,rfl⟩
theorem zq9(c b a:Int)(w:World)(d:zH a=true)(f:b<1):
  Cs 89 #[.int .i64 c,.int .i64 b,.int .i64 a] w (.tuple #[.int .i64 0,.bool false]):=by
 go_enter Tryz.func89,Tryz.ntmps89
 go_wp2_with fail;refine(jF a _).mono ?_;rintro e g ⟨rfl,rfl⟩;rw[d];go_wp2;go_ret2
 exact⟨rfl,rfl⟩
theorem zra(c b a:Int)(w:World)(d:zH a=true)(f:4<b):
  Cs 89 #[.int .i64 c,.int .i64 b,.int .i64 a] w (.tuple #[.int .i64 0,.bool false]):=by
 go_enter Tryz.func89,Tryz.ntmps89
 go_wp2_with fail;refine(jF a _).mono ?_;rintro e g ⟨rfl,rfl⟩;rw[d];go_wp2;go_ret2
 exact⟨rfl,rfl⟩
theorem zrb(c b a:Int)(w:World)(d:zH a=true)(f:1<=b)(g:b<=4)(h:c<0):
  Cs 89 #[.int .i64 c,.int .i64 b,.int .i64 a] w (.tuple #[.int .i64 0,.bool false]):=by
 go_enter Tryz.func89,Tryz.ntmps89
 go_wp2_with fail;refine(jF a _).mono ?_;rintro e i ⟨rfl,rfl⟩;rw[d];go_wp2;go_ret2
 exact⟨rfl,rfl⟩
theorem zrc(a b c:Int)(w:World)(f:zH c=true)(d:qG b=true)(h:1<=b)(i:b<=4)(j:0<=a)(k:zA b<=a):
  Cs 89 #[.int .i64 a,.int .i64 b,.int .i64 c] w (.tuple #[.int .i64 0,.bool false]):=by
 go_enter Tryz.func89,Tryz.ntmps89
 go_wp2_with fail;refine(jF c _).mono ?_;rintro e g ⟨rfl,rfl⟩;rw[f];go_wp2_with fail;refine(round b _ d).mono ?_;rintro e g ⟨rfl,rfl⟩;go_wp2;go_ret2
 exact⟨rfl,rfl⟩
theorem zrd(a b c:Int)(w:World)(f:zH c=true)(d:qG b=true)(h:1<=b)(i:b<=4)(j:0<=a)(l:a<zA b)(k:1073741823<a):
  Cs 89 #[.int .i64 a,.int .i64 b,.int .i64 c] w (.tuple #[.int .i64 0,.bool false]):=by
 go_enter Tryz.func89,Tryz.ntmps89
 go_wp2_with fail;refine(jF c _).mono ?_;rintro e g ⟨rfl,rfl⟩;rw[f];go_wp2_with fail;refine(round b _ d).mono ?_;rintro e g ⟨rfl,rfl⟩;go_wp2;go_ret2
 exact⟨rfl,rfl⟩
theorem zq7(a b d:Int)(w:World)(h:jI a b d=false):
  Cs 89 #[.int .i64 a,.int .i64 b,.int .i64 d] w (.tuple #[.int .i64 0,.bool false]):=by
 cases f:zH d with
 |false=>exact zq8 a b d w f
 |true=>
  cases c:qG b with
  |false=>
   rcases aA c with c|c;exact zq9 a b d w f c;exact zra a b d w f c
  |true=>
   have g:1<=b/\b<=4:=of_decide_eq_true c;by_cases j:a<0;exact zrb a b d w f g.1 g.2 j;by_cases i:a<zA b;refine zrd a b d w f c g.1 g.2 (by omega) i ?_;by_cases k:a<=1073741823;have l:zH a=true:=(xG _).2 ⟨by omega,k⟩;simp[jI,f,c,l,i]at h;.omega
   exact zrc a b d w f c g.1 g.2 (by omega) (by omega)
theorem zre(a b c:Int)(w:World)(d:zH c=true)(g:qG b=true)(t:1<=b)(u:b<=4)(h:zH a=true)(i:a<zA b)
  (F:a<c) (q:1073741823<a+(c-a)/zA b*zA b+zA b):
  Cs 89 #[.int .i64 a,.int .i64 b,.int .i64 c] w (.tuple #[.int .i64 (a+(c-a)/zA b*zA b),.bool true]):=by
 obtain⟨y,B⟩:=zo d;obtain⟨v,x⟩:=zo h;have f:0<=(c-a)/zA b:=Int.ediv_nonneg (by omega) (by have:=qA b;omega);have j:(c-a)/zA b*zA b<=c-a:=Int.ediv_mul_le _ (by have:=qA b;omega);have k:0<=(c-a)/zA b*zA b:=Int.mul_nonneg f (by have:=qA b;omega);have l:(c-a)/zA b<=c-a:=Int.ediv_le_self _ (by omega);go_enter Tryz.func89,Tryz.ntmps89
 go_wp2_with fail;refine(jF c _).mono ?_;rintro e s ⟨rfl,rfl⟩;rw[d];go_wp2_with fail;refine(round b _ g).mono ?_;rintro e s ⟨rfl,rfl⟩;obtain⟨m,n⟩:=qA b;generalize p:zA b=r at m n i q f j k l |-;go_wp2;go_ret2
 rw[<-p];exact⟨rfl,rfl⟩
theorem zrf(a b c:Int)(w:World)(f:zH c=true)(l:qG b=true)(h:1<=b)(i:b<=4)(d:zH a=true)(m:a<zA b)
  (u:a<c) (v:a+(c-a)/zA b*zA b+zA b<=1073741823) (x:c<a+(c-a)/zA b*zA b):
  Cs 89 #[.int .i64 a,.int .i64 b,.int .i64 c] w (.tuple #[.int .i64 (a+(c-a)/zA b*zA b),.bool true]):=by
 obtain⟨s,t⟩:=zo f;obtain⟨j,k⟩:=zo d;have n:(c-a)/zA b*zA b<=c-a:=Int.ediv_mul_le _ (by have:=qA b;omega);exfalso;omega
theorem zrg(a b c:Int)(w:World)(d:zH c=true)(g:qG b=true)(v:1<=b)(x:b<=4)(h:zH a=true)(i:a<zA b)
  (Q:a<c) (q:a+(c-a)/zA b*zA b+zA b<=1073741823) (s:a+(c-a)/zA b*zA b<=c) (t:a+(c-a)/zA b*zA b+zA b-c<=c-(a+(c-a)/zA b*zA b)):
  Cs 89 #[.int .i64 a,.int .i64 b,.int .i64 c] w (.tuple #[.int .i64 (a+(c-a)/zA b*zA b+zA b),.bool true]):=by
 obtain⟨F,P⟩:=zo d;obtain⟨y,B⟩:=zo h;have f:0<=(c-a)/zA b:=Int.ediv_nonneg (by omega) (by have:=qA b;omega);have j:(c-a)/zA b*zA b<=c-a:=Int.ediv_mul_le _ (by have:=qA b;omega);have k:0<=(c-a)/zA b*zA b:=Int.mul_nonneg f (by have:=qA b;omega);have l:(c-a)/zA b<=c-a:=Int.ediv_le_self _ (by omega);go_enter Tryz.func89,Tryz.ntmps89
 go_wp2_with fail;refine(jF c _).mono ?_;rintro e u ⟨rfl,rfl⟩;rw[d];go_wp2_with fail;refine(round b _ g).mono ?_;rintro e u ⟨rfl,rfl⟩;obtain⟨m,n⟩:=qA b;generalize p:zA b=r at m n i q s t f j k l |-;go_wp2;go_ret2
 rw[<-p];exact⟨rfl,rfl⟩
theorem zrh(a b c:Int)(w:World)(d:zH c=true)(g:qG b=true)(v:1<=b)(x:b<=4)(h:zH a=true)(i:a<zA b)
  (Q:a<c) (q:a+(c-a)/zA b*zA b+zA b<=1073741823) (s:a+(c-a)/zA b*zA b<=c) (t:c-(a+(c-a)/zA b*zA b)<a+(c-a)/zA b*zA b+zA b-c):
  Cs 89 #[.int .i64 a,.int .i64 b,.int .i64 c] w (.tuple #[.int .i64 (a+(c-a)/zA b*zA b),.bool true]):=by
 obtain⟨F,P⟩:=zo d;obtain⟨y,B⟩:=zo h;have f:0<=(c-a)/zA b:=Int.ediv_nonneg (by omega) (by have:=qA b;omega);have j:(c-a)/zA b*zA b<=c-a:=Int.ediv_mul_le _ (by have:=qA b;omega);have k:0<=(c-a)/zA b*zA b:=Int.mul_nonneg f (by have:=qA b;omega);have l:(c-a)/zA b<=c-a:=Int.ediv_le_self _ (by omega);go_enter Tryz.func89,Tryz.ntmps89
 go_wp2_with fail;refine(jF c _).mono ?_;rintro e u ⟨rfl,rfl⟩;rw[d];go_wp2_with fail;refine(round b _ g).mono ?_;rintro e u ⟨rfl,rfl⟩;obtain⟨m,n⟩:=qA b;generalize p:zA b=r at m n i q s t f j k l |-;go_wp2;go_ret2
 rw[<-p];exact⟨rfl,rfl⟩
theorem zq3(a b c:Int)(w:World)(d:zH c=true)(f:qG b=true)(n:1<=b)(p:b<=4)(g:zH a=true)(h:a<zA b)
  (v:c<=a) (l:1073741823<a+zA b):
  Cs 89 #[.int .i64 a,.int .i64 b,.int .i64 c] w (.tuple #[.int .i64 (a),.bool true]):=by
 obtain⟨t,u⟩:=zo d;obtain⟨q,s⟩:=zo g;go_enter Tryz.func89,Tryz.ntmps89
 go_wp2_with fail;refine(jF c _).mono ?_;rintro e m ⟨rfl,rfl⟩;rw[d];go_wp2_with fail;refine(round b _ f).mono ?_;rintro e m ⟨rfl,rfl⟩;obtain⟨i,j⟩:=qA b;generalize k:zA b=r at i j h l |-;go_wp2;go_ret2
 rw[<-k];exact⟨rfl,rfl⟩
theorem zq4(a b c:Int)(w:World)(d:zH c=true)(f:qG b=true)(p:1<=b)(q:b<=4)(g:zH a=true)(h:a<zA b)
  (x:c<=a) (l:a+zA b<=1073741823) (m:c<a):
  Cs 89 #[.int .i64 a,.int .i64 b,.int .i64 c] w (.tuple #[.int .i64 (a),.bool true]):=by
 obtain⟨u,v⟩:=zo d;obtain⟨s,t⟩:=zo g;go_enter Tryz.func89,Tryz.ntmps89
 go_wp2_with fail;refine(jF c _).mono ?_;rintro e n ⟨rfl,rfl⟩;rw[d];go_wp2_with fail;refine(round b _ f).mono ?_;rintro e n ⟨rfl,rfl⟩;obtain⟨i,j⟩:=qA b;generalize k:zA b=r at i j h l m |-;go_wp2;go_ret2
 rw[<-k];exact⟨rfl,rfl⟩
theorem zq5(a b c:Int)(w:World)(f:zH c=true)(k:qG b=true)(g:1<=b)(h:b<=4)(d:zH a=true)(l:a<zA b)
  (q:c<=a) (r:a+zA b<=1073741823) (s:a<=c) (t:a+zA b-c<=c-(a)):
  Cs 89 #[.int .i64 a,.int .i64 b,.int .i64 c] w (.tuple #[.int .i64 (a+zA b),.bool true]):=by
 obtain⟨n,p⟩:=zo f;obtain⟨i,j⟩:=zo d;exfalso;omega
theorem zq6(a b c:Int)(w:World)(d:zH c=true)(f:qG b=true)(q:1<=b)(s:b<=4)(g:zH a=true)(h:a<zA b)
  (y:c<=a) (l:a+zA b<=1073741823) (m:a<=c) (n:c-(a)<a+zA b-c):
  Cs 89 #[.int .i64 a,.int .i64 b,.int .i64 c] w (.tuple #[.int .i64 (a),.bool true]):=by
 obtain⟨v,x⟩:=zo d;obtain⟨t,u⟩:=zo g;go_enter Tryz.func89,Tryz.ntmps89
 go_wp2_with fail;refine(jF c _).mono ?_;rintro e p ⟨rfl,rfl⟩;rw[d];go_wp2_with fail;refine(round b _ f).mono ?_;rintro e p ⟨rfl,rfl⟩;obtain⟨i,j⟩:=qA b;generalize k:zA b=r at i j h l m n |-;go_wp2;go_ret2
 rw[<-k];exact⟨rfl,rfl⟩
theorem zri(a b c:Int)(w:World)(h:jI a b c=true):
  Cs 89 #[.int .i64 a,.int .i64 b,.int .i64 c] w (.tuple #[.int .i64 (near a (zA b) c),.bool true]):=by
 rw[<-zkl a b c h];obtain⟨⟨⟨j,f⟩,g⟩,i⟩:=(JX _ _ _).1 h;have d:1<=b/\b<=4:=of_decide_eq_true f;unfold Kg;by_cases l:a<c;have p:low a (zA b) c=a+(c-a)/zA b*zA b:=by simp[low,l]
 rw[p];by_cases m:1073741823<a+(c-a)/zA b*zA b+zA b;rw [if_pos (Or.inl m)];exact zre a b c w j f d.1 d.2 g i l m;by_cases n:c<a+(c-a)/zA b*zA b;rw [if_pos (Or.inr n)];exact zrf a b c w j f d.1 d.2 g i l (by omega) n;rw [if_neg (by omega)];by_cases k:a+(c-a)/zA b*zA b+zA b-c<=c-(a+(c-a)/zA b*zA b);rw [if_pos k];exact zrg a b c w j f d.1 d.2 g i l (by omega) (by omega) k;rw [if_neg k];exact zrh a b c w j f d.1 d.2 g i l (by omega) (by omega) (by omega)
 have p:low a (zA b) c=a:=by simp[low,l]
 rw[p];by_cases m:1073741823<a+zA b;rw [if_pos (Or.inl m)];exact zq3 a b c w j f d.1 d.2 g i (by omega) m;by_cases n:c<a;rw [if_pos (Or.inr n)];exact zq4 a b c w j f d.1 d.2 g i (by omega) (by omega) n;rw [if_neg (by omega)];by_cases k:a+zA b-c<=c-a;rw [if_pos k];exact zq5 a b c w j f d.1 d.2 g i (by omega) (by omega) (by omega) k;rw [if_neg k];exact zq6 a b c w j f d.1 d.2 g i (by omega) (by omega) (by omega) (by omega)
theorem zp2(w:World):
  Cs 45 #[.int .i64 0] w (.int .i64 1):=by
 go_enter Tryz.func45,Tryz.ntmps45
 go_wp2;refine wp_loop_rounds 2 ?_;rw[rounds_succ];go_wp2;go_ret;exact⟨rfl,rfl⟩
end Go.Proofs.YtdokgalidhmbbaaGreatDoor.U
namespace Go.Proofs.YtdokgalidhmbbaaGreatDoor
open Go.RowKit Go.Lib Go.Sort
abbrev F:=Int×List Int×ByteArray
def fF(f:F):Int:=qX f.1 f.2.1 f.2.2
def fS(f:F):ByteArray:=jB f.1 f.2.1 f.2.2
def zS(l:List F)(j:Nat):F:=l[j]?.getD (0,[],{data:=#[]})
def ql:List F->Int
 |[]=>0
 |f::a=>if fF f≠0 then fF f else ql a
def zx:List F->ByteArray
 |[]=>{data:=#[]}
 |f::a=>fS f++zx a
theorem QO(f:F)(l:List F)(j:Nat):zS (f::l) (j+1)=zS l j:=by simp[zS]
theorem XL(f:F)(l:List F):zS (f::l) 0=f:=by simp[zS]
variable {l:List F}{j:Nat}
theorem Jr(h:j<l.length):zS l j=l[j]:=by simp[zS,h]
theorem Js(h:j<l.length):zS l j∈l:=by rw[Jr h];exact List.getElem_mem h
theorem KA:∀(l:List F) (k:Nat),k<l.length->(∀j,j<k->fF (zS l j)=0)->fF (zS l k)≠0->ql l=fF (zS l k)
 |[],k,h,_,_=>by simp at h
 |f::l,0,_,_,hn=>by
  rw[XL]at hn |-
  simp[ql,hn]
 |f::l,k+1,h,a,hn=>by
  have e:=a 0 (by omega)
  rw[XL]at e
  rw[QO]at hn |-
  simp only[ql,e,ne_eq,not_true,if_false]
  exact KA l k (by simpa using h) (λj b=>by have:=a (j+1) (by omega);rwa[QO]at this) hn
theorem XN:∀(l:List F),(∀j,j<l.length->fF (zS l j)=0)->ql l=0
 |[],_=>rfl
 |f::l,h=>by
  have e:=h 0 (by simp)
  rw[XL]at e
  simp only[ql,e,ne_eq,not_true,if_false]
  exact XN l (λj a=>by have:=h (j+1) (by simpa using a);rwa[QO]at this)
theorem Yc:∀(l:List F),ql l=0->∀j,j<l.length->fF (zS l j)=0
 |[],_,j,h=>by simp at h
 |f::l,h,j,a=>by
  by_cases e:fF f=0
  .simp only[ql,e,ne_eq,not_true,if_false]at h
   cases j with
   |zero=>rw[XL];exact e
   |succ j=>rw[QO];exact Yc l h j (by simpa using a)
  .simp only[ql,ne_eq,e,not_false_iff,if_true]at h
theorem WU(a b c:ByteArray):a++b++c=a++(b++c):=by
 apply jq;simp only[V.wB,List.append_assoc]
theorem WV(a:ByteArray):a++({data:=#[]}:ByteArray)=a:=by
 apply jq;rw[V.wB];show V.ints a++[]=_;simp
theorem zkw(a:ByteArray):({data:=#[]}:ByteArray)++a=a:=by
 apply jq;rw[V.wB];rfl
theorem KC:∀(a b:List F),zx (a++b)=zx a++zx b
 |[],b=>by simp only[List.nil_append,zx];rw[zkw]
 |f::a,b=>by simp only[List.cons_append,zx,KC a b,WU]
theorem Ye(f:F):zx [f]=fS f:=by simp only[zx];rw[WV]
theorem KD{k:Nat}(h:k<l.length):zx (l.take (k+1))=zx (l.take k)++fS (zS l k):=by
 rw[List.take_succ_eq_append_getElem h,KC,Ye,Jr h]
def zX(n b:Int):List Int:=if b=1 then[n%256]else if b=2 then[n/256%256,n%256]else if b=3 then[n/65536%256,n/256%256,n%256]else[n/16777216%256,n/65536%256,n/256%256,n%256]
def vP(n k:Int):ByteArray:=strOfNums [U.need n k]++strOfNums (zX n (U.need n k))
def xw(n k:Int)(l:List F):ByteArray:=vP n k++zx l
def vX(n k:Int)(l:List F):Int:=if U.qb n k=false then 1 else if l.length=0 then 5 else if 12<l.length then 4 else if ql l≠0 then ql l else if 200<(xw n k l).size then 4 else 0
theorem Kk{n b:Int}(h:U.qG b=true):((zX n b).length:Int)=b:=by
 rcases U.vD h with rfl|rfl|rfl|rfl<;>rfl
theorem Kj(n b:Int):Bytes (zX n b):=by
 have h:∀m:Int,0<=m%256/\m%256<256:=λm=>by omega
 unfold zX Bytes;intro z hz;split at hz;simp at hz;subst hz;exact h _;split at hz;simp at hz;rcases hz with rfl|rfl<;>exact h _
 split at hz;simp at hz;rcases hz with rfl|rfl|rfl<;>exact h _
 simp at hz;rcases hz with rfl|rfl|rfl|rfl<;>exact h _
def big(l:List Int):Int:=l.foldl (λc x=>256*c+x) 0
theorem QA{l:List Int}{k:Nat}(h:k<l.length):big (l.take (k+1))=256*big (l.take k)+l[k]?.getD 0:=by
 rw[List.take_succ_eq_append_getElem h,List.getElem?_eq_getElem h];unfold big;rw[List.foldl_append];rfl
theorem zbt{l:List Int}(b:Bytes l):∀k,k<=l.length->0<=big (l.take k)/\big (l.take k)<(256:Int) ^ k:=by
 intro k
 induction k with
 |zero=>intro _;simp[big]
 |succ k c=>
  intro h;have i:=c (by omega);have a:0<=l[k]?.getD 0/\l[k]?.getD 0<256:=by
   rw[List.getElem?_eq_getElem (by omega)];exact b _ (List.getElem_mem _)
  rw[QA (by omega),Int.pow_succ];generalize l[k]?.getD 0=y at a;generalize big (l.take k)=z at i;generalize(256:Int) ^ k=p at i;omega
theorem Qs{l:List Int}(b:Bytes l)(k:Nat)(h:k<=l.length)(a:k<=3):0<=big (l.take k)/\big (l.take k)<16777216:=by
 have i:=zbt b k h;have:(256:Int) ^ k<=16777216:=by
  match k,a with
  |0,_=>decide
  |1,_=>decide
  |2,_=>decide
  |3,_=>decide
 omega
def vQ:Nat->ByteArray->Option (List F)
 |0,s=>if s.size=0 then some []else none
 |k+1,s=>if s.size=0 then some []else
  match jL s with
  |none=>none
  |some x=>(vQ k (s.extract x.2 s.size)).map (x.1:: ·)
def qF(s:ByteArray):Option (List F):=vQ s.size s
theorem zot:∀(k j:Nat) (s:ByteArray),s.size<=k->s.size<=j->vQ k s=vQ j s:=by
 intro k
 induction k with
 |zero=>
  intro j s c _
  have b:s.size=0:=by omega
  cases j with
  |zero=>rfl
  |succ j=>simp only[vQ,if_pos b]
 |succ k e=>
  intro j s c g;by_cases b:s.size=0;cases j with
  |zero=>simp only[vQ,if_pos b]
  |succ j=>simp only[vQ,if_pos b]
  cases j with
  |zero=>omega
  |succ j=>
   simp only[vQ,if_neg b]
   cases h1:jL s with
   |none=>rfl
   |some x=>
    obtain⟨⟨a,M,d⟩,n⟩:=x;have f:=VT h1;have h:(s.extract n s.size).size=s.size-n:=by rw[ByteArray.size_extract];omega
    simp only;rw[e j (s.extract n s.size) (by omega) (by omega)]
variable {s:ByteArray}
theorem Xt(h:s.size=0):qF s=some []:=by
 unfold qF;rw[h];simp only[vQ,if_pos h]
theorem VV(h:s.size≠0)(a:jL s=none):qF s=none:=by
 obtain⟨m,b⟩:∃m,s.size=m+1:=⟨s.size-1,by omega⟩;unfold qF;rw[b];simp only[vQ,if_neg h,a]
variable {f:F}{n:Nat}
theorem VW(h:s.size≠0)(h1:jL s=some (f,n)):qF s=(qF (s.extract n s.size)).map (f:: ·):=by
 obtain⟨m,b⟩:∃m,s.size=m+1:=⟨s.size-1,by omega⟩;obtain⟨a,M,d⟩:=f;have c:=VT h1;have g:(s.extract n s.size).size=s.size-n:=by rw[ByteArray.size_extract];omega
 have e:qF s=(vQ m (s.extract n s.size)).map ((a,M,d):: ·):=by
  show vQ s.size s=_;conv=>lhs;rw[b]
  simp only[vQ,if_neg h,h1]
 rw[e,zot m (s.extract n s.size).size _ (by omega) (Nat.le_refl _)];rfl
theorem zos(h:s.size≠0):qF s≠some []:=by
 intro e
 cases h1:jL s with
 |none=>rw[VV h h1]at e;cases e
 |some x=>
  obtain⟨f,n⟩:=x
  rw[VW h h1]at e
  cases a:qF (s.extract n s.size)with
  |none=>rw[a]at e;cases e
  |some y=>rw[a]at e;cases e
def kg(L:List F)(s:ByteArray):Option (List F):=(qF s).map (L++ ·)
theorem eO(s:ByteArray):kg [] s=qF s:=by unfold kg;cases qF s<;>simp
variable {L:List F}
theorem eF(h:s.size=0):kg L s=some L:=by simp[kg,Xt h]
theorem eG(h:s.size≠0)(a:jL s=none):kg L s=none:=by simp[kg,VV h a]
theorem eH(h:s.size≠0)(a:jL s=some (f,n)):kg L s=kg (L++[f]) (s.extract n s.size):=by
 unfold kg;rw[VW h a];cases qF (s.extract n s.size)<;>simp
theorem VU{L:List F}(h1:jL s=some (f,n)):fF f=0/\1<=n/\n<=s.size:=by
 obtain⟨k,M,d⟩:=f;have:=VT h1;exact⟨this.1,this.2.1,this.2.2.1⟩
def fin(o:Option (List F)):Option (List F):=o.bind λl=>if l.length=0\/12<l.length then none else some l
theorem zga(a:L.length=12)(h:s.size≠0):fin (kg L s)=none:=by
 unfold kg
 cases h1:qF s with
 |none=>rfl
 |some y=>
  have b:y.length≠0:=λe=>by rw[List.eq_nil_of_length_eq_zero e]at h1;exact zos h h1
  simp only[Option.map_some,fin,Option.bind_some];rw[if_pos (by rw[List.length_append];omega)]
theorem Y6(h:1<=l.length)(a:l.length<=12):fin (some l)=some l:=by
 simp only[fin,Option.bind_some];rw[if_neg (by omega)]
theorem zgb(h:12<l.length):fin (some l)=none:=by
 simp only[fin,Option.bind_some];rw[if_pos (by omega)]
def jX(s:ByteArray)(a:Int):Option (Int×Nat):=match V.ints s with
 |[]=>none
 |k::l=>if U.qG k=false\/(l.length:Int)<k then none else if U.jI (big (l.take k.toNat)) k a=false then none else some (U.near (big (l.take k.toNat)) (U.zA k) a,1+k.toNat)
def xZ(s:ByteArray)(a:Int):Option (Int×List F):=(jX s a).bind λx=>(fin (qF (s.extract x.2 s.size))).map λl=>(x.1,l)
def xO(s:ByteArray)(a:Int):Int:=if U.zH a=false then 1 else if 200<s.size then 4 else if xZ s a=none then 2 else 0
theorem Zl{n k:Int}(h:vX n k l=0):U.qb n k=true/\1<=l.length/\l.length<=12/\ql l=0/\(xw n k l).size<=200:=by
 unfold vX at h;split at h;cases h;rename_i a;split at h;cases h;split at h;cases h;split at h;.contradiction
 rename_i b;split at h;cases h;exact ⟨by simpa using a,by omega,by omega,by simpa using b,by omega⟩
theorem XZ(n k:Int):V.ints (vP n k)=U.need n k::zX n (U.need n k):=by
 unfold vP;have h:=U.vD (U.yK n k);rw[V.wB,V.Z6 _ (Kj _ _),V.Z6 [U.need n k] (λz hz=>by simp at hz;subst hz;omega)];rfl
def FCells(w:World)(b c:Nat)(a:List F):Prop:=∀j,j<a.length->∃u,w.cell? ⟨b,c+j*3,none⟩=some (.int .i64 (zS a j).1)/\w.cell? ⟨b,c+j*3+1,none⟩=some u/\w.cell? ⟨b,c+j*3+2,none⟩=some (.string (zS a j).2.2)/\IRow w u (zS a j).2.1/\(zS a j).2.2.size<=maxLen
def FRow(w:World)(v:Value)(a:List F):Prop:=∃d c,v=.slice d a.length c/\a.length<=9223372036854775807/\a.length<=c/\(a=[]\/∃b e,d=some ⟨b,e,none⟩/\b<w.heap.size/\FCells w b e a)
variable {w E:World}
theorem FCells.below{b a:Nat}{e:List F}(h:FCells w b a e)(d:b<w.heap.size)(c:Below w.heap.size w E):FCells E b a e:=λj m=>by
 obtain⟨u,f,g,i,k,l⟩:=h j m
 exact⟨u,(c.cell (p:=⟨b,a+j*3,none⟩) d).trans f,(c.cell (p:=⟨b,a+j*3+1,none⟩) d).trans g,(c.cell (p:=⟨b,a+j*3+2,none⟩) d).trans i,k.below c,l⟩
variable {v:Value}
theorem FRow.below{d:List F}(h:FRow w v d)(a:Below w.heap.size w E):FRow E v d:=by
 obtain⟨f,c,rfl,i,j,h⟩:=h;refine⟨f,c,rfl,i,j,?_⟩;rcases h with h|⟨b,k,rfl,e,g⟩;exact .inl h;exact .inr ⟨b,k,rfl,Nat.lt_of_lt_of_le e a.size,g.below e a⟩
theorem FRow.shape{b:List F}(h:FRow w v b):∃a c,v=.slice a b.length c:=by
 obtain⟨a,c,e,_⟩:=h;exact⟨a,c,e⟩
def xI(a:List Value)(j:Nat):Value:=a[j]?.getD .nilIface
def jA:List Value->List F->List Value
 |u::b,f::a=>.int .i64 f.1::u:: .string f.2.2::jA b a
 |_,_=>[]
theorem QP:∀(b:List Value) (a:List F) (j:Nat),b.length=a.length->j<a.length->(jA b a)[j*3]? =some (.int .i64 (zS a j).1)/\(jA b a)[j*3+1]? =some (xI b j)/\(jA b a)[j*3+2]? =some (.string (zS a j).2.2)
 |[],[],j,_,h=>by simp at h
 |[],f::a,j,h,_=>by simp at h
 |u::b,[],j,h,_=>by simp at h
 |u::b,f::a,0,_,_=>by simp[jA,zS,xI]
 |u::b,f::a,j+1,h,e=>by
  have i:=QP b a j (by simpa using h) (by simpa using e)
  have c:(j+1)*3=j*3+1+1+1:=by omega
  have d:xI (u::b) (j+1)=xI b j:=by simp[xI]
  rw[c,QO,d]
  simpa[jA]using i
theorem Y4:∀(b:List Value) (a:List F) (u:Value) (f:F),b.length=a.length->jA (b++[u]) (a++[f])=jA b a++[.int .i64 f.1,u,.string f.2.2]
 |[],[],u,f,_=>rfl
 |[],g::a,u,f,h=>by simp at h
 |v::b,[],u,f,h=>by simp at h
 |v::b,g::a,u,f,h=>by simp only[List.cons_append,jA,Y4 b a u f (by simpa using h)]
structure FOwn(w:World)(B:Nat)(v:Value)(us:List Value)(fs:List F):Prop where
 len:us.length=fs.length
 own:w.ownsRow B 141 3 v fs.length (jA us fs)
 rows:∀j,j<fs.length->OwnI w B (xI us j) (zS fs j).2.1
 good:∀j,j<fs.length->fF (zS fs j)=0
theorem FOwn.nil(w:World)(B:Nat):FOwn w B (.slice none 0 0) [] []:=⟨rfl,World.ownsRow_nil _ _ _ _,λj h=>by simp at h,λj h=>by simp at h⟩
variable {B:Nat}
theorem FOwn.below{c:List Value}{b:List F}(h:FOwn w B v c b)(a:Below w.heap.size w E):FOwn E B v c b:=
 ⟨h.len,own_below h.own a,λj d=>(h.rows j d).below a,h.good⟩
variable {u:Value}
theorem bZ{a m:Nat}{K f:List Value}(h:w.ownsRow B 3 1 u n K)(c:w.ownsRow a 141 3 v m f):u.ownBlock=none\/u.ownBlock≠v.ownBlock:=by
 rcases h.2 with⟨rfl,_⟩|⟨g,i,k,rfl,_,d,_⟩;exact .inl rfl
 .right
  intro e
  rcases c.2 with⟨rfl,_⟩|⟨b,j,l,rfl,_,hg',_⟩
  .cases e
  .have:g=b:=by simpa[Value.ownBlock]using e
   subst this
   rw[d]at hg'
   cases hg'
theorem JV{a:List Value}(h:j<a.length):xI (a++[u]) j=xI a j:=by simp[xI,List.getElem?_append_left h]
theorem JU{a:List Value} :xI (a++[u]) a.length=u:=by simp[xI]
variable {a:List F}
theorem Y3(h:j<a.length):zS (a++[f]) j=zS a j:=by simp[zS,List.getElem?_append_left h]
theorem Y2:zS (a++[f]) a.length=f:=by simp[zS]
theorem FOwn.app{i:Value}{c:List Value}(h:FOwn w B v c a)(g:OwnI w B u f.2.1)(k:fF f=0)
  (l:E.ownsRow B 141 3 i (a.length+1) (jA c a++[.int .i64 f.1,u,.string f.2.2])) (d:w.grownBy E v.ownBlock):FOwn E B i (c++[u]) (a++[f]):=by
 refine⟨by simp[h.len],by rw[Y4 _ _ _ _ h.len,List.length_append];exact l,λj hj=>?_,λj hj=>?_⟩;rw [List.length_append,List.length_cons,List.length_nil]at hj;by_cases e:j=a.length;rw [e,Y2,<-h.len,JU];exact g.kept d (bZ g h.own);have b:j<a.length:=by omega
 rw[Y3 b,JV (by rw[h.len];exact b)];exact(h.rows j b).kept d (bZ (h.rows j b) h.own);rw [List.length_append,List.length_cons,List.length_nil]at hj;by_cases e:j=a.length;rw [e,Y2];exact k;rw [Y3 (by omega)];exact h.good j (by omega)
theorem XK(h:fF f=0):f.2.1.length<=24/\f.2.2.size<=20:=by
 obtain⟨_,h2,_,_,a,_⟩:=kV h;refine⟨?_,a⟩;unfold zW at h2;split at h2;have:=of_decide_eq_true h2;omega;have:=of_decide_eq_true h2;rw[this];unfold zk;split;.omega
 split<;>omega
theorem FOwn.row{d:List Value}(h:FOwn w B v d a)(p:a.length<=1000000):FRow w v a:=by
 rcases h.own.2 with⟨e,c⟩|⟨g,i,m,e,n,l,k,_⟩;exact ⟨none,0,by rw[e,c],by omega,by omega,.inl (List.eq_nil_of_length_eq_zero c)⟩;refine ⟨some ⟨g,0,none⟩,i,e,by omega,k,.inr ⟨g,0,rfl,(Array.getElem?_eq_some_iff.1 l).1,λj b=>?_⟩⟩;have ho:=h.own;rw[e]at ho;have f:=QP d a j h.len b;have c0:=ho.cells (g:=g) rfl _ _ f.1;have c1:=ho.cells (g:=g) rfl _ _ f.2.1;have c2:=ho.cells (g:=g) rfl _ _ f.2.2;rw[Addr.add_lit]at c0 c1 c2;have q:=XK (h.good j b);exact⟨_,c0,by rw[<-Nat.add_assoc]at c1;exact c1,by rw[<-Nat.add_assoc]at c2;exact c2,X0 (h.rows j b) (by omega),by unfold maxLen;omega⟩
theorem QU:(Tryz.prog.info? 141).map (λi=>(i.zero,i.size,i.bytes))=some (some (.agg #[.int .i64 0,.slice none 0 0,.string {data:=#[]}]),3,48):=by kernel_rfl
theorem wR(w:World)(k:Int)(u:Value)(d:ByteArray)(t:TypeId):∀(j:Nat) (a:Value),[Value.int .i64 k,u,.string d][j]? =some a->(w.alloc (.cells #[.int .i64 k,u,.string d] t)).cell? ((⟨w.heap.size,0,none⟩:Addr).add j)=some a:=by
 intro j a h
 rw[Addr.add_lit]
 match j,h with
 |0,h=>simp at h;subst h;simp
 |1,h=>simp at h;subst h;simp
 |2,h=>simp at h;subst h;simp
 |j+3,h=>simp at h
theorem wW(k:Int)(a:Option Addr)(n c:Nat)(d:ByteArray):∀b∈ [Value.int .i64 k,.slice a n c,.string d],b.oneCell'=true:=by
 intro b h;simp at h;rcases h with rfl|rfl|rfl<;>rfl
theorem Jz{k:Int}{M:List Int}{d:ByteArray}(h:qX k M d=0):(jB k M d).size<=121:=by
 have a:=aT h;have b:=(kV h).2.2.2.2.1;unfold jB;rw[ByteArray.size_append,ByteArray.size_append,strOfNums_size [k]];simp only[List.length_cons,List.length_nil];omega
theorem KE(h:∀j,j<l.length->fF (zS l j)=0):∀k,k<=l.length->(zx (l.take k)).size<=121*k:=by
 intro k
 induction k with
 |zero=>intro _;simp[zx];rfl
 |succ k a=>
  intro b;have i:=a (by omega);have s:(fS (zS l k)).size<=121:=Jz (h k (by omega));rw[KD (by omega),ByteArray.size_append];omega
end Go.Proofs.YtdokgalidhmbbaaGreatDoor
namespace Go.Proofs.YtdokgalidhmbbaaGreatDoor
open Go.RowKit Go.Shelf Go.Lib
attribute [local go_sem] Oper.semAt_some
theorem qmk(b:Nat)(a:1<=b)(c:b<=4)(w:World):(Instr.makeSlice 37 (.int .i64 (b:Int)) (.int .i64 (b:Int))).run Tryz.prog w=.ok (.slice (some ⟨w.heap.size,0,none⟩) b b) (w.alloc (.cells ((List.replicate b (0:Int)).map (Value.int .u8)).toArray 5)):=by
 rcases(show b=1\/b=2\/b=3\/b=4 by omega)with rfl|rfl|rfl|rfl;.kernel_rfl
 .kernel_rfl
 .kernel_rfl
 .kernel_rfl
theorem Xp(b:Nat)(B:1<=b)(F:b<=4)(n k c:Int)(w:World)(a4:∀W,Calls Tryz.prog 83 #[.int .i64 n,.int .i64 k] W λe E=>e=.returned (.tuple #[.int .i64 (b:Int),.nilIface])/\W=E)(a2:∀W,Calls Tryz.prog 176 #[.int .i64 n,.int .i64 (b:Int)] W λe E=>e=.returned (.tuple #[.int .i64 c,.nilIface])/\W=E)(h0:0<=c)(h1:c<4294967296)(m:List Int)(M:(V.after c (List.replicate b 0) (V.xK b b)).2=m):
  Cl 151 #[.int .i64 n,.int .i64 k] w (.tuple #[.string (strOfNums [(b:Int)]++strOfNums m),.nilIface]):=by
 refine(callsIn_wide (n:=4)).1 ?_;have f1:Fence.wide.fn 83:=trivial;have f2:Fence.wide.fn 176:=trivial;have f3:Fence.wide.fn 108:=trivial;have hmk:=λW=>qmk b B F W;generalize H:((List.replicate b (0:Int)).map (Value.int .u8)).toArray=Z at hmk;have Y:Hid (((List.replicate b (0:Int)).map (Value.int .u8)).toArray=Z):=H;clear H;have o:Hid (1<=b/\b<=4):=⟨B,F⟩;have a8:(b:Int)%256=(b:Int):=by omega
 clear B F;refine callsIn_of_wp_marks Tryz.func151 rfl trivial ?_ rfl;simp only[Tryz.ntmps151,List.size_toArray,List.length_cons,List.length_nil,Nat.reduceAdd,Nat.reduceSub,Array.replicate_succ,Array.replicate_zero,List.push_toArray,List.append_toArray,List.nil_append,List.cons_append];gi_wp2_with (first|(gi_at_call 83;refine(callsIn_wide.2 (a4 _)).mono ?_;rintro e w1 ⟨rfl,rfl⟩)|(gi_at_call 176;refine(callsIn_wide.2 (a2 _)).mono ?_;rintro e w1 ⟨rfl,rfl⟩)|(gi_at_call 108;refine(V.WY Fence.wide 3 trivial rfl _ _ _ _).mono ?_;rintro e E ⟨rfl,rfl⟩))
 clear hmk;obtain⟨f,g⟩:∃f,((((w.alloc (.cells #[.int .i64 c] 3)).alloc (.cells Z 5)).alloc (.cells #[(.slice (some ⟨w.heap.size+1,0,none⟩) b b)] 37)).alloc (.cells #[(.slice (some ⟨w.heap.size+1,0,none⟩) b b)] 37))=f:=⟨_,rfl⟩;have sz:f.heap.size=w.heap.size+4:=by rw[<-g];simp
 have bR:Boxed f w.heap.size 3 (.int .i64 c):=by rw[<-g];exact(((Boxed.new w 3 _).alloc _).alloc _).alloc _
 have A:V.Byt f (w.heap.size+1) (List.replicate b 0):=by
  rw[<-g];have h:V.Byt ((w.alloc (.cells #[.int .i64 c] 3)).alloc (.cells Z 5)) (w.heap.size+1) (List.replicate b 0):=by
   have:=World.alloc_heap_new (w.alloc (.cells #[.int .i64 c] 3)) (.cells Z 5);rw[World.size_alloc]at this;unfold V.Byt;rw[Y.out];exact this
  exact(h.alloc _).alloc _
 have bS:Boxed f (w.heap.size+1+1) 37 (.slice (some ⟨w.heap.size+1,0,none⟩) b b):=by
  rw[<-g];have h:=Boxed.new ((w.alloc (.cells #[.int .i64 c] 3)).alloc (.cells Z 5)) 37 (.slice (some ⟨w.heap.size+1,0,none⟩) b b);rw[World.size_alloc,World.size_alloc]at h;exact h.alloc _
 have C:Boxed f (w.heap.size+1+1+1) 37 (.slice (some ⟨w.heap.size+1,0,none⟩) b b):=by
  rw[<-g];have h:=Boxed.new (((w.alloc (.cells #[.int .i64 c] 3)).alloc (.cells Z 5)).alloc (.cells #[(.slice (some ⟨w.heap.size+1,0,none⟩) b b)] 37)) 37 (.slice (some ⟨w.heap.size+1,0,none⟩) b b);rw[World.size_alloc,World.size_alloc,World.size_alloc]at h;exact h
 have a1:Below w.heap.size w f:=by
  rw[<-g];exact(((((Below.refl _ w).alloc (Nat.le_refl _) _).alloc (by simp<;>omega) _).alloc (by simp<;>omega) _).alloc (by simp<;>omega) _)
 have y:Hid (((List.replicate b 0):List Int).length=b):=List.length_replicate ..;rw[g];clear g
 refine wpIn_rangeFunc_ownG rfl (by decide) (gf:=138) (lb:=#[.pointer (some ⟨w.heap.size+1+1+1,0,none⟩)]) rfl trivial (enters_of Tryz.func138 (by kernel_rfl) rfl)
  (V.WZ Fence.wide (4-1) trivial rfl (by decide) (w.heap.size+1+1+1) (w.heap.size+1) b b (by have:=o.out;omega) f (by omega) (by omega) ⟨C.cell,λj s=>⟨_,A.cell j (by rw[y.out];exact s)⟩⟩)
  (λh k hR=>k (h hR)) (V.KpRow.put (w:=f)) (Below.refl _ _) (λ_=>rfl)
  (λa W=>Boxed W w.heap.size 3 (.int .i64 (V.after c (List.replicate b 0) (a.map λx=>x.1.1)).1)/\V.Byt W (w.heap.size+1) (V.after c (List.replicate b 0) (a.map λx=>x.1.1)).2/\Boxed W (w.heap.size+1+1) 37 (.slice (some ⟨w.heap.size+1,0,none⟩) b b)/\Boxed W (w.heap.size+1+1+1) 37 (.slice (some ⟨w.heap.size+1,0,none⟩) b b)/\Below w.heap.size w W)
  (λ_ _ _=>False)
  (OwnFrom.and (Own.from (boxed_own _ _ _) _) (OwnFrom.and (Own.from (V.Byt.own _ _) _) (OwnFrom.and (Own.from (boxed_own _ _ _) _) (OwnFrom.and (Own.from (boxed_own _ _ _) _) (ownFrom_below (Nat.le_refl _) (by omega))))))
  (λ_ _ _ _ _ hs _ _=>hs)
  ⟨bR,A,bS,C,a1⟩
  (λx=>{tmps:=#[.int .i64 n,.int .i64 k,undef,undef,.string {data:=#[]},.nilIface,.int .i64 (b:Int),.nilIface,.pointer (some ⟨w.heap.size,0,none⟩),.pointer (some ⟨w.heap.size+1+1,0,none⟩),.int .i64 (x.1.1:Int),.tuple #[.int .i64 (b:Int),.nilIface],.int .i64 n,.int .i64 k,.tuple #[.int .i64 (b:Int),.nilIface],.int .i64 (b:Int),.nilIface,.nilIface,.bool false,undef,.tuple #[.int .i64 c,.nilIface],.int .i64 n,.int .i64 (b:Int),.tuple #[.int .i64 c,.nilIface],.int .i64 c,.nilIface,.nilIface,.bool false,undef,.int .i64 (b:Int),(.slice (some ⟨w.heap.size+1,0,none⟩) b b),(.slice (some ⟨w.heap.size+1,0,none⟩) b b),.func (.func 138) #[] #[.pointer (some ⟨w.heap.size+1+1+1,0,none⟩)],.int .i64 (x.1.1:Int),.int .u8 x.1.2,undef,undef,undef,undef,undef,undef,undef,undef,undef,undef,undef,undef,undef,undef],defers:=[]}) ?assign ?body ?done ?stop
 case assign=>
  intro l x W K r;gi_wp2;exact r
 case body=>
  rintro l a ⟨⟨i,v⟩,U⟩ W ⟨kR,kB,u,S,q⟩ _;have U:i<b:=U;have Q:=(V.Qo c (List.replicate b 0) (a.map λx=>x.1.1)).trans y.out;have hbd:=V.WP c (List.replicate b 0) (a.map λx=>x.1.1) h0 h1;have X:=V.WQ c (List.replicate b 0) (a.map λx=>x.1.1) i;have kc:=kB.cell i (by rw[Q];exact U);have kf:=kB.frozen i;have HS:Hid (V.after c (List.replicate b 0) (a.map (λx=>x.1.1)++[i])=V.step (V.after c (List.replicate b 0) (a.map λx=>x.1.1)) i):=X
  have HL:Hid ((V.after c (List.replicate b 0) (a.map λx=>x.1.1)).2.length=b):=Q;clear X Q;generalize V.after c (List.replicate b 0) (a.map λx=>x.1.1)=d at*;have ab:=kR.cell;have ac:=kR.frozen;have a7:=u.cell;obtain⟨a9,aa⟩:=hbd;have g1:((i:Nat):Int)<(b:Int):=by omega
  gi_wp2;have O:=(kB.set i (d.1%256)).other (B':=w.heap.size) (by omega) (.int .i64 (d.1/256));have a5:=(V.Boxed.otherRow (B':=w.heap.size+1) (j:=i) kR (by omega) (.int .u8 (d.1%256))).set (.int .i64 (d.1/256));have a6:=(V.Boxed.otherRow (B':=w.heap.size+1) (j:=i) u (by omega) (.int .u8 (d.1%256))).other (B':=w.heap.size) (by omega) (.int .i64 (d.1/256));have T:=(V.Boxed.otherRow (B':=w.heap.size+1) (j:=i) S (by omega) (.int .u8 (d.1%256))).other (B':=w.heap.size) (by omega) (.int .i64 (d.1/256))
  have a0:=(q.setCell (p:=⟨w.heap.size+1,i,none⟩) (by show w.heap.size<=w.heap.size+1;omega) (.int .u8 (d.1%256))).setCell (p:=⟨w.heap.size,0,none⟩) (Nat.le_refl _) (.int .i64 (d.1/256));have hL:(d.2.set i (d.1%256)).length=b:=by rw[List.length_set];exact HL.out
  refine⟨((KeepsOthers.setCell _ _ _).trans (KeepsOthers.setCell _ _ _)).from _,λ_=>⟨T.cell,λj s=>⟨_,O.cell j (by rw[hL];exact s)⟩⟩,?_,?_,a6,T,a0⟩;rw [List.map_append];show Boxed _ _ _ (.int .i64 (V.after c (List.replicate b 0) (a.map (λx=>x.1.1)++[i])).1);rw[HS.out];exact a5;rw [List.map_append];show V.Byt _ _ (V.after c (List.replicate b 0) (a.map (λx=>x.1.1)++[i])).2;rw[HS.out];exact O
 case done=>
  rintro D ys W hD N ⟨kR,kB,u,S,q⟩ r;rw[N,M]at kB;have t:m.length=b:=by rw[<-M,V.Qo,y.out]
  have R:=kB.alloc (.cells #[.int .u8 (b:Int)] 5);have a3:=run_convert_bytes_arg (P:=Tryz.prog) (W.alloc (.cells #[.int .u8 (b:Int)] 5)) 37 5 Tryz.underlying37 Tryz.underlying5 (w.heap.size+1) 0 b b m t (λj s=>by
   rw[Nat.zero_add,R.cell j (by omega)];simp[List.getD]) 9 Tryz.underlying9
  have I:=V.vv [(b:Int)] W #[.int .u8 (b:Int)] rfl;simp only[List.length_cons,List.length_nil,Nat.reduceAdd]at I;have a7:=(u.alloc (.cells #[.int .u8 (b:Int)] 5)).cell;have sa:(strOfNums [(b:Int)]).size+(strOfNums m).size<=9223372036854775807:=by rw[strOfNums_size,strOfNums_size,t];have:=o.out;simp;omega
  have HL:=zC t;have G:(W.alloc (.cells #[.int .u8 (b:Int)] 5)).heap[D]? =some (Obj.deferred (some [])):=(heap_alloc_old W _ (Array.getElem?_eq_some_iff.1 r).1).trans r;clear t N R;generalize L:strOfNums m=sx at a3 sa;generalize J:strOfNums [(b:Int)]=s1 at I sa;have z:Hid (strOfNums m=sx/\strOfNums [(b:Int)]=s1):=⟨L,J⟩;clear L J;gi_wp2;refine⟨by simp,.inl ⟨_,_,rfl,run_takeDeferred G,?_⟩⟩;exact⟨_,results_tmp2 rfl _ _ _,by rw[z.out.1,z.out.2];rfl,(q.alloc q.size _).trans (belowK_b (w:=w) (Nat.le_refl _) _ D _ _ (by omega) G rfl rfl)⟩
 case stop=>
  rintro D c a W _ _ h _;exact h.elim
theorem zas(n:Int)(h:0<=n):(V.after (n%256) [0] (V.xK 1 1)).2=zX n 1:=by
 simp[V.after,V.step,V.xK,zX,List.range_succ]
theorem zat(n:Int)(h:0<=n):(V.after (n%65536) [0,0] (V.xK 2 2)).2=zX n 2:=by
 simp[V.after,V.step,V.xK,zX,List.range_succ]<;>omega
theorem zau(n:Int)(h:0<=n):(V.after (n%16777216) [0,0,0] (V.xK 3 3)).2=zX n 3:=by
 simp[V.after,V.step,V.xK,zX,List.range_succ]<;>omega
theorem zav(n:Int)(h:0<=n):(V.after (n%4294967296) [0,0,0,0] (V.xK 4 4)).2=zX n 4:=by
 simp[V.after,V.step,V.xK,zX,List.range_succ]<;>omega
theorem VJ(n k:Int)(w:World)(h:U.qb n k=true):Cl 151 #[.int .i64 n,.int .i64 k] w (.tuple #[.string (vP n k),.nilIface]):=by
 obtain⟨b,d,_⟩:=U.wL h;have c:U.zH n=true:=(U.xG n).2 ⟨b,d⟩;have hn:∀W,Calls Tryz.prog 83 #[.int .i64 n,.int .i64 k] W λe E=>e=.returned (.tuple #[.int .i64 (U.need n k),.nilIface])/\W=E:=λW=>(U.Xe n k W h).mono λe E a=>⟨a.1,a.2.symm⟩;have hc:∀W,Calls Tryz.prog 176 #[.int .i64 n,.int .i64 (U.need n k)] W λe E=>e=.returned (.tuple #[.int .i64 (n%U.zA (U.need n k)),.nilIface])/\W=E:=λW=>(U.zdi n (U.need n k) W c (U.yK n k)).mono λe E a=>⟨a.1,a.2.symm⟩
 unfold vP;rcases U.vD (U.yK n k)with e|e|e|e;rw [e]at hn hc |-;exact Xp 1 (by decide) (by decide) n k _ w hn hc (by rw[U.V5];omega) (by rw[U.V5];omega) _ (by rw[U.V5];exact zas n b);rw [e]at hn hc |-;exact Xp 2 (by decide) (by decide) n k _ w hn hc (by rw[U.V6];omega) (by rw[U.V6];omega) _ (by rw[U.V6];exact zat n b);rw [e]at hn hc |-;exact Xp 3 (by decide) (by decide) n k _ w hn hc (by rw[U.V7];omega) (by rw[U.V7];omega) _ (by rw[U.V7];exact zau n b)
 rw [e]at hn hc |-;exact Xp 4 (by decide) (by decide) n k _ w hn hc (by rw[U.V8];omega) (by rw[U.V8];omega) _ (by rw[U.V8];exact zav n b)
theorem znn(n k:Int)(w:World)(h:U.qb n k=false):Cl 151 #[.int .i64 n,.int .i64 k] w (.tuple #[.string {data:=#[]},zN 1]):=by
 have a:=λW=>U.Xd n k W h;rw[XJ];clear h;go_enter Tryz.func151,Tryz.ntmps151
 go_wp2_with (first|(go_at_call 83;refine(a _).mono ?_;rintro e b ⟨rfl,rfl⟩));go_ret2
 exact⟨rfl,Below.refl _ _⟩
end Go.Proofs.YtdokgalidhmbbaaGreatDoor
namespace Go.Proofs.YtdokgalidhmbbaaGreatDoor
open Go.RowKit Go.Lib Go.Sort
theorem zr0(a b:ByteArray):strCells (a++b)=strCells a++strCells b:=by
 have e:a++b=strOfNums (V.ints a++V.ints b):=by rw[<-V.wB];exact(V.ZT (a++b)).symm
 have L:strOfNums (V.ints a)=a:=V.ZT a;have o:strOfNums (V.ints b)=b:=V.ZT b;rw[e,V.gK,L,o]
def xX(l:List F):Int:=if l.length=0 then 5 else if 12<l.length then 4 else ql l
theorem zmw(a:Option Addr)(c:Nat)(w:World):Cl 152 #[.slice a 0 c] w (.tuple #[.string {data:=#[]},.iface 133 (.int .i64 5)]):=by
 go_enter Tryz.func152,Tryz.ntmps152
 go_wp2_with fail;go_ret2
 exact⟨rfl,Below.refl _ _⟩
theorem zmu(a:Option Addr)(m c:Nat)(w:World)(h:12<m)(f:m<=9223372036854775807):Cl 152 #[.slice a m c] w (.tuple #[.string {data:=#[]},.iface 133 (.int .i64 4)]):=by
 have b:¬(m:Int)=0:=by omega
 have d:(12:Int)<(m:Int):=by omega
 go_enter Tryz.func152,Tryz.ntmps152
 go_wp2_with fail;go_ret2
 exact⟨rfl,Below.refl _ _⟩
theorem dI(b z g c:Nat)(l:List F)(w:World)(G:V.Forms w)(E:Cnts w)(K:l.length=g)(h0:1<=g)(a5:g<=12)(H:b<w.heap.size)(J:FCells w b z l):
  Calls Tryz.prog 152 #[.slice (some ⟨b,z,none⟩) g c] w λe w'=>((ql l=0/\e=.returned (.tuple #[.string (zx l),.nilIface]))\/(ql l≠0/\e=.returned (.tuple #[.string {data:=#[]},zN (ql l)])))/\Below w.heap.size w w':=by
 obtain⟨i0,hi,a1,a2,a3⟩:=info_parts V.info5;have g0:¬(g:Int)=0:=by omega
 have a4:¬(12:Int)<(g:Int):=by omega
 have HL:=zC K;have S:=zC J;have C:Hid (V.Forms w/\Cnts w):=⟨G,E⟩;clear K J G E;go_enter Tryz.func152,Tryz.ntmps152
 go_wp2_with fail;go_loopw [4,21] (λt i wr=>∃k:Nat,k<=g/\i=.int .i64 k/\wr.ownsRow w.heap.size 5 1 t (zx (l.take k)).size (strCells (zx (l.take k)))/\Hid (∀j,j<k->fF (zS l j)=0)/\Below w.heap.size w wr) (λ_ i _=>g-(intOf i).toNat)
 case atStart=>exact⟨0,Nat.zero_le _,rfl,World.ownsRow_nil _ _ _ _,(λj q=>absurd q (Nat.not_lt_zero _)),Below.refl _ _⟩
 case round=>
  obtain⟨k,hk,rfl,s,p,h⟩:=hrel;by_cases a7:k<g
  .have y:k<l.length:=by have:=HL.out;omega
   obtain⟨u,x0,x1,x2,r,hd⟩:=S.out.below H h k y;have g1:(k:Int)<(g:Int):=by omega
   have a9:(zx (l.take k)).size<=1452:=by
    have hh:∀j,j<(l.take k).length->fF (zS (l.take k) j)=0:=λj q=>by
     rw[List.length_take]at q;have:=p.out j (by omega);rwa[show zS (l.take k) j=zS l j by simp[zS,List.getElem?_take,show j<k by omega]]
    have:=KE hh (l.take k).length (Nat.le_refl _);rw[List.take_length,List.length_take]at this;omega
   have HN:Hid (zx (l.take (k+1))=zx (l.take k)++fS (zS l k)):=KD y;have HAT:Hid (fF (zS l k)≠0->ql l=fF (zS l k)):=λhn=>KA l k y p.out hn;have HAL:Hid (fF (zS l k)=0->∀j,j<k+1->fF (zS l j)=0):=λX j q=>by
    by_cases e:j=k;rw [e];exact X;exact p.out j (by omega)
   have n:V.Forms wr/\Cnts wr:=⟨C.out.1.below h,C.out.2.below h⟩;clear y p;generalize zS l k=f at*;obtain⟨a,M,d⟩:=f;simp only at x0 x1 x2 r hd;have bel1:Below wr.heap.size wr (wr.alloc (.cells #[.int .i64 a,u,.string d] 141)):=(Below.refl _ wr).alloc (Nat.le_refl _) _;have a6:b<wr.heap.size:=Nat.lt_of_lt_of_le H h.size;by_cases m:fF (a,M,d)=0
   .have HP:=zgk a u d M _ (n.2.below bel1) (n.1.below bel1) (r.below bel1) m;have a8:(jB a M d).size<=121:=Jz m;have R:Hid (∀j,j<k+1->fF (zS l j)=0):=HAL.out m;obtain⟨P,Q,o,_⟩:=id r;subst o;have hB1:Below w.heap.size w (wr.alloc (.cells #[.int .i64 a,.slice P M.length Q,.string d] 141)):=h.alloc h.size _;have hown1:=own_below s bel1;have HNs:Hid (zx (l.take (k+1))=zx (l.take k)++jB a M d):=HN.out
    clear m HAL HAT HN r n s;generalize jB a M d=sz at*;generalize zx (l.take k)=so at*;generalize M.length=nn at*;go_wp2_with fail;refine HP.mono ?_;rintro e N ⟨rfl,x⟩;have v:=hB1.trans (x.mono hB1.size);have L:=own_below hown1 x;have I:=v.size;clear HP hown1 hB1;go_wp2_with (at_builtin;refine wpList_append_own_string _ rfl _ _ 37 9 rfl w.heap.size 5 i0 Tryz.underlying37 Tryz.underlying9 hi a1 a2 a3 _ _ _ rfl L _ rfl (by unfold maxLen;omega) (by omega) I ?_;intro v' O a0 Y _)
    have Z:N.grownBy O u4.ownBlock:=Y;have T:Below w.heap.size w O:=v.grown Z I (λj e=>(L.lt j e).1);exact⟨⟨k+1,by omega,by go_num,by rw[HNs.out,zr0,ByteArray.size_append];exact a0,R,T⟩,by simp[intOf];omega⟩
   have HP:=zgj a u d M _ (n.2.below bel1) (r.below bel1) hd m;have A:Hid (ql l=fF (a,M,d)):=HAT.out m;have B:Hid (fF (a,M,d)≠0):=m;have U:zN (qX a M d)=.iface 133 (.int .i64 (qX a M d)):=by
    have:qX a M d≠0:=m;simp[zN,this]
   rw[U]at HP;have HEV:Hid (zN (ql l)=.iface 133 (.int .i64 (qX a M d))):=by
    show _=_;rw[A.out];exact U
   obtain⟨P,Q,o,_⟩:=id r;subst o;have hB1:Below w.heap.size w (wr.alloc (.cells #[.int .i64 a,.slice P M.length Q,.string d] 141)):=h.alloc h.size _;clear m HAL HAT HN r n s U;generalize qX a M d=ff at HP HEV;generalize M.length=nn at*;go_wp2_with fail;refine HP.mono ?_;rintro e N ⟨rfl,x⟩;have v:=hB1.trans (x.mono hB1.size);go_wp2_with fail;go_ret2
   exact⟨.inr ⟨by rw[A.out];exact B.out,by rw[HEV.out];rfl⟩,v⟩
  obtain rfl:k=g:=by omega
  have W:=V.Ky s;have D:l.take k=l:=List.take_of_length_le (by have:=HL.out;omega);rw[D]at W;have B:Hid (ql l=0):=XN l (λj q=>p.out j (by have:=HL.out;omega));clear s D;go_wp2_with fail;go_ret2
  exact⟨.inl ⟨B.out,rfl⟩,h⟩
theorem dJ(v:Value)(l:List F)(w:World)(f:V.Forms w)(d:Cnts w)(g:FRow w v l)(h:xX l=0):Cl 152 #[v] w (.tuple #[.string (zx l),.nilIface]):=by
 unfold xX at h;obtain⟨n,c,rfl,q,r,k⟩:=g;split at h;cases h;rename_i h0;split at h;cases h;rename_i p;rcases k with e|⟨b,m,rfl,a,i⟩;rw [e]at h0;exact absurd rfl h0;refine (dI b m _ c l w f d rfl (by omega) (by omega) a i).mono ?_;rintro e E ⟨⟨_,rfl⟩|⟨j,_⟩,a⟩;exact ⟨rfl,a⟩;exact absurd h j
theorem zmv(v:Value)(l:List F)(w:World)(i:V.Forms w)(g:Cnts w)(j:FRow w v l)(h:xX l≠0):Cl 152 #[v] w (.tuple #[.string {data:=#[]},zN (xX l)]):=by
 obtain⟨f,c,rfl,n,r,p⟩:=j;by_cases h0:l.length=0;rw [show xX l=5 by simp only[xX,if_pos h0],h0];exact zmw f c w;by_cases a:12<l.length;rw [show xX l=4 by simp only[xX,if_neg h0,if_pos a]];exact zmu f _ c w a n;rw [show xX l=ql l by simp only[xX,if_neg h0,if_neg a]]at h |-;rcases p with e|⟨b,q,rfl,d,k⟩;rw [e]at h0;exact absurd rfl h0;refine (dI b q _ c l w i g rfl (by omega) (by omega) d k).mono ?_;rintro e E ⟨⟨m,_⟩|⟨_,rfl⟩,d⟩;exact absurd m h;exact ⟨rfl,d⟩
theorem zm6(n k:Int)(l:List F)(h:U.qb n k=true):vX n k l=if xX l≠0 then xX l else if 200<(xw n k l).size then 4 else 0:=by
 unfold vX xX;rw[if_neg (by rw[h];decide)];by_cases a:l.length=0;simp [a];by_cases b:12<l.length;simp [a,b];simp only[if_neg a,if_neg b]
variable {l:List F}
theorem zmt(h:xX l=0):ql l=0/\1<=l.length/\l.length<=12:=by
 unfold xX at h;split at h;cases h;split at h;cases h;exact ⟨h,by omega,by omega⟩
theorem dN{n k:Int}(h:xX l=0):(vP n k).size<=5/\(zx l).size<=1452:=by
 constructor;rw [<-zg,XZ,List.length_cons];have:=Kk (n:=n) (U.yK n k);have:=U.vD (U.yK n k);omega;obtain ⟨a,b,c⟩:=zmt h;have:=KE (Yc l a) l.length (Nat.le_refl _);rw[List.take_length]at this;omega
theorem zna(n k:Int)(a:Option Addr)(m c:Nat)(w:World)(h:U.qb n k=false):
  Cl 125 #[.int .i64 n,.int .i64 k,.slice a m c] w (.tuple #[.string {data:=#[]},.iface 133 (.int .i64 1)]):=by
 have HN:=znn n k w h;rw[XJ]at HN;clear h;go_enter Tryz.func125,Tryz.ntmps125
 go_wp2_with (first|(go_at_call 151;refine HN.mono ?_;rintro e d ⟨rfl,b⟩));go_ret2
 exact⟨rfl,b⟩
theorem znb(n k:Int)(v:Value)(l:List F)(w:World)(i:V.Forms w)(g:Cnts w)(hR:FRow w v l)(h:U.qb n k=true)(a:xX l≠0):
  Cl 125 #[.int .i64 n,.int .i64 k,v] w (.tuple #[.string {data:=#[]},zN (xX l)]):=by
 have HN:=VJ n k w h;have HP:=λW (b:Below w.heap.size w W)=>zmv v l W (i.below b) (g.below b) (hR.below b) a;rw[show zN (xX l)=.iface 133 (.int .i64 (xX l)) by simp[zN,a]]at HP |-;obtain⟨q,c,rfl⟩:=hR.shape;clear h a hR i g;generalize xX l=f at*;generalize l.length=m at*;generalize vP n k=r at*;go_enter Tryz.func125,Tryz.ntmps125
 go_wp2_with (first|(go_at_call 151;refine HN.mono ?_;rintro e s ⟨rfl,d⟩)|(go_at_call 152;refine(HP _ d).mono ?_;rintro e t ⟨rfl,p⟩;have j:=d.trans (p.mono d.size)));go_ret2
 exact⟨rfl,j⟩
theorem znc(n k:Int)(v:Value)(l:List F)(w:World)(j:V.Forms w)(i:Cnts w)(hR:FRow w v l)(h:U.qb n k=true)(a:xX l=0)(h2:200<(xw n k l).size):
  Cl 125 #[.int .i64 n,.int .i64 k,v] w (.tuple #[.string {data:=#[]},.iface 133 (.int .i64 4)]):=by
 have HN:=VJ n k w h;have HP:=λW (b:Below w.heap.size w W)=>dJ v l W (j.below b) (i.below b) (hR.below b) a;obtain⟨r,c,rfl⟩:=hR.shape;have x:=dN (n:=n) (k:=k) a;unfold xw at*;rw[ByteArray.size_append]at h2;clear h a hR j i;generalize l.length=m at*;generalize vP n k=g at*;generalize zx l=f at*;have y:(200:Int)<(g.size:Int)+(f.size:Int):=by omega
 have s:g.size+f.size<=9223372036854775807:=by omega
 have t:(g.size:Int)<=5:=by omega
 have u:(f.size:Int)<=1452:=by omega
 clear h2;go_enter Tryz.func125,Tryz.ntmps125
 go_wp2_with (first|(go_at_call 151;refine HN.mono ?_;rintro e B ⟨rfl,d⟩)|(go_at_call 152;refine(HP _ d).mono ?_;rintro e P ⟨rfl,q⟩;have p:=d.trans (q.mono d.size)));go_ret2
 exact⟨rfl,p⟩
theorem znd(n k:Int)(v:Value)(l:List F)(w:World)(j:V.Forms w)(i:Cnts w)(hR:FRow w v l)(h:U.qb n k=true)(a:xX l=0)(h2:(xw n k l).size<=200):
  Cl 125 #[.int .i64 n,.int .i64 k,v] w (.tuple #[.string (xw n k l),.nilIface]):=by
 have HN:=VJ n k w h;have HP:=λW (b:Below w.heap.size w W)=>dJ v l W (j.below b) (i.below b) (hR.below b) a;obtain⟨r,c,rfl⟩:=hR.shape;have x:=dN (n:=n) (k:=k) a;unfold xw at*;rw[ByteArray.size_append]at h2;clear h a hR j i;generalize l.length=m at*;generalize vP n k=g at*;generalize zx l=f at*;have y:¬(200:Int)<(g.size:Int)+(f.size:Int):=by omega
 have s:g.size+f.size<=9223372036854775807:=by omega
 have t:(g.size:Int)<=5:=by omega
 have u:(f.size:Int)<=1452:=by omega
 clear h2;go_enter Tryz.func125,Tryz.ntmps125
 go_wp2_with (first|(go_at_call 151;refine HN.mono ?_;rintro e B ⟨rfl,d⟩)|(go_at_call 152;refine(HP _ d).mono ?_;rintro e P ⟨rfl,q⟩;have p:=d.trans (q.mono d.size)));go_ret2
 exact⟨rfl,p⟩
theorem zne(n k:Int)(v:Value)(l:List F)(w:World)(i:V.Forms w)(g:Cnts w)(f:FRow w v l)(h:vX n k l≠0):
  Cl 125 #[.int .i64 n,.int .i64 k,v] w (.tuple #[.string {data:=#[]},zN (vX n k l)]):=by
 cases a:U.qb n k with
 |false=>
  rw[show vX n k l=1 by simp only[vX,if_pos a]];obtain⟨j,c,rfl⟩:=f.shape;exact zna n k j _ c w a
 |true=>
  rw[zm6 n k l a]at h |-;by_cases b:xX l=0;rw [if_neg (by simp[b])]at h |-;by_cases d:200<(xw n k l).size;rw [if_pos d];exact znc n k v l w i g f a b d;rw [if_neg d]at h;exact absurd rfl h;rw [if_pos b];exact znb n k v l w i g f a b
theorem znf(n k:Int)(v:Value)(l:List F)(w:World)(f:V.Forms w)(d:Cnts w)(g:FRow w v l)(h:vX n k l=0):
  Cl 125 #[.int .i64 n,.int .i64 k,v] w (.tuple #[.string (xw n k l),.nilIface]):=by
 obtain⟨a,i,j,b,c⟩:=Zl h;exact znd n k v l w f d g a (by unfold xX;rw[if_neg (by omega),if_neg (by omega)];exact b) c
theorem jU{d:ByteArray}{k:Nat}(h:k<d.size)(w:World):(Instr.index 9 (.string d) (.int .i64 (k:Int))).run Tryz.prog w=.ok (.int .u8 ((V.ints d)[k]?.getD 0)) w:=by
 have e:((d[k].toNat:Nat):Int)=(V.ints d)[k]?.getD 0:=by
  obtain⟨⟨r⟩⟩:=d;have a:k<r.length:=h;simp[V.ints,a];rfl
 have c:(k:Int)<(d.size:Int):=by omega
 have b:=Tryz.underlying9;go_simp;first|done|simp[e]
theorem ztf(a:Int)(w:World):Cl 155 #[.string {data:=#[]},.int .i64 a] w (.tuple #[.int .i64 0,.string {data:=#[]},.iface 133 (.int .i64 2)]):=by
 go_enter Tryz.func155,Tryz.ntmps155
 go_wp2_with fail;go_ret3
 exact⟨rfl,Below.refl _ _⟩
theorem zti(s:ByteArray)(f k:Int)(l:List Int)(w:World)(a:V.ints s=k::l)(m:s.size<=200)(h:(l.length:Int)<k):Cl 155 #[.string s,.int .i64 f] w (.tuple #[.int .i64 0,.string {data:=#[]},.iface 133 (.int .i64 2)]):=by
 have b:s.size=l.length+1:=by rw[<-zg,a];rfl
 have c:Bytes l:=λz b=>zu s z (by rw[a];simp[b]);have j:0<=k/\k<256:=zu s k (by rw[a];simp);have n:=x8 (d:=s) (by omega);have i:=λW=>jP s k l a W;have p:s.size<=9223372036854775807:=by omega
 have g:(s.size:Int)<=k:=by omega
 clear a c b h;go_enter Tryz.func155,Tryz.ntmps155
 go_wp2_with fail;go_ret3
 exact⟨rfl,Below.refl _ _⟩
theorem zte(s:ByteArray)(f k:Int)(l:List Int)(w:World)(hs:V.ints s=k::l)(G:s.size<=200)(h:¬(l.length:Int)<k)(hb:U.qG k=false):Cl 155 #[.string s,.int .i64 f] w (.tuple #[.int .i64 0,.string {data:=#[]},.iface 133 (.int .i64 2)]):=by
 have b:s.size=l.length+1:=by rw[<-zg,hs];rfl
 have g:Bytes l:=λz b=>zu s z (by rw[hs];simp[b]);have D:0<=k/\k<256:=zu s k (by rw[hs];simp);have I:=x8 (d:=s) (by omega);have A:=λW=>jP s k l hs W;have u:s.size<=9223372036854775807:=by omega
 have L:∀W:World,(Instr.slice 9 (.string s) (some (.int .i64 1)) none none).run Tryz.prog W=.ok (.string (s.extract 1 s.size)) W:=λW=>je s 1 (by omega) u W;have hid:V.ints (s.extract 1 s.size)=l:=by rw[qY s 1 (by omega),hs];rfl
 have J:(s.extract 1 s.size).size=l.length:=by rw[<-zg,hid]
 have HIX:Hid (∀(i:Nat) (W:World),i<l.length->(Instr.index 9 (.string (s.extract 1 s.size)) (.int .i64 (i:Int))).run Tryz.prog W=.ok (.int .u8 (l[i]?.getD 0)) W):=λi W o=>by
  have:=jU (d:=s.extract 1 s.size) (k:=i) (by omega) W;rw[hid]at this;exact this
 obtain⟨K,rfl⟩:∃K:Nat,k=(K:Int):=⟨k.toNat,by omega⟩;have P:¬(s.size:Int)<=(K:Int):=by omega
 have B:Hid (∀a,a<=l.length->(s.extract 1 s.size).extract a (s.extract 1 s.size).size=s.extract (1+a) s.size):=λa Q=>by
  apply jq;rw[qY _ _ (by omega),hid,qY _ _ (by omega),hs,show 1+a=a+1 by omega,List.drop_succ_cons]
 generalize t:s.extract 1 s.size=M at*;have m:Hid ((K:Nat)<=l.length):=by show _<=_;omega
 have F:=zC b;have x:=zC g;clear b hs hid t g;have n:Hid (∀z W,Cs 178 #[.int .i64 z,.int .i64 (K:Int),.int .i64 f] W (.tuple #[.int .i64 0,.iface 133 (.int .i64 1)])):=λz W=>U.iM z K f W (by simp[U.jI,hb]);clear hb h;go_enter Tryz.func155,Tryz.ntmps155
 go_wp2_with fail;go_quiet (fail)
 go_wp2_with fail;go_loopw [9,30] (λc i v=>∃(j:Nat) (z:Int),j<=K/\i=.int .i64 (j:Int)/\c=.int .i64 z/\Hid (Below w.heap.size w v)) (λ_ i _=>K-(intOf i).toNat)
 case atStart=>exact⟨0,0,Nat.zero_le _,rfl,rfl,below_drewN (Below.refl _ _) _⟩
 case round=>
  obtain⟨j,z,C,rfl,rfl,HB⟩:=hrel;by_cases H:j<K
  .have q:(j:Int)<(K:Int):=by omega
   have r:=λW=>HIX.out j W (by have:=m.out;omega);generalize l[j]?.getD 0=y at r;go_wp2_with fail;exact⟨⟨j+1,_,by omega,by go_num,rfl,HB⟩,by simp[intOf];omega⟩
  have q:¬(j:Int)<(K:Int):=by omega
  have p:=n.out z;go_wp2_with (first|(go_at_call 178;refine(p _).mono ?_;rintro e N ⟨rfl,rfl⟩));go_ret3
  exact⟨rfl,HB.out⟩
theorem ztg(s:ByteArray)(g k:Int)(l:List Int)(w:World)(hs:V.ints s=k::l)(J:s.size<=200)(h:¬(l.length:Int)<k)(hb:U.qG k=true)(hw:U.jI (big (l.take k.toNat)) k g=false):Cl 155 #[.string s,.int .i64 g] w (.tuple #[.int .i64 0,.string {data:=#[]},.iface 133 (.int .i64 2)]):=by
 have f:s.size=l.length+1:=by rw[<-zg,hs];rfl
 have n:Bytes l:=λz f=>zu s z (by rw[hs];simp[f]);have I:0<=k/\k<256:=zu s k (by rw[hs];simp);have M:=x8 (d:=s) (by omega);have G:=λW=>jP s k l hs W;have v:s.size<=9223372036854775807:=by omega
 have R:∀W:World,(Instr.slice 9 (.string s) (some (.int .i64 1)) none none).run Tryz.prog W=.ok (.string (s.extract 1 s.size)) W:=λW=>je s 1 (by omega) v W;have hid:V.ints (s.extract 1 s.size)=l:=by rw[qY s 1 (by omega),hs];rfl
 have O:(s.extract 1 s.size).size=l.length:=by rw[<-zg,hid]
 have HIX:Hid (∀(i:Nat) (W:World),i<l.length->(Instr.index 9 (.string (s.extract 1 s.size)) (.int .i64 (i:Int))).run Tryz.prog W=.ok (.int .u8 (l[i]?.getD 0)) W):=λi W D=>by
  have:=jU (d:=s.extract 1 s.size) (k:=i) (by omega) W;rw[hid]at this;exact this
 obtain⟨K,rfl⟩:∃K:Nat,k=(K:Int):=⟨k.toNat,by omega⟩;have A:¬(s.size:Int)<=(K:Int):=by omega
 have Q:Hid (∀a,a<=l.length->(s.extract 1 s.size).extract a (s.extract 1 s.size).size=s.extract (1+a) s.size):=λa C=>by
  apply jq;rw[qY _ _ (by omega),hid,qY _ _ (by omega),hs,show 1+a=a+1 by omega,List.drop_succ_cons]
 generalize u:s.extract 1 s.size=S at*;have q:Hid ((K:Nat)<=l.length):=by show _<=_;omega
 have o:=zC f;have m:=zC n;clear f hs hid u n;rw[Int.toNat_natCast]at hw;have p:Hid (K<=4):=by show _<=_;have:=U.vD hb;omega
 have HW:Hid (∀W,Cs 178 #[.int .i64 (big (l.take K)),.int .i64 (K:Int),.int .i64 g] W (.tuple #[.int .i64 0,.iface 133 (.int .i64 1)])):=λW=>U.iM _ _ g W hw;clear hb h hw;go_enter Tryz.func155,Tryz.ntmps155
 go_wp2_with fail;go_quiet (fail)
 go_wp2_with fail;go_loopw [9,30] (λc i x=>∃(j:Nat),j<=K/\i=.int .i64 (j:Int)/\c=.int .i64 (big (l.take j))/\Hid (Below w.heap.size w x)) (λ_ i _=>K-(intOf i).toNat)
 case atStart=>exact⟨0,Nat.zero_le _,rfl,rfl,below_drewN (Below.refl _ _) _⟩
 case round=>
  obtain⟨j,H,rfl,rfl,HB⟩:=hrel;by_cases L:j<K
  .have r:(j:Int)<(K:Int):=by omega
   have b:j<l.length:=by have:=q.out;omega
   have t:=λW=>HIX.out j W b;have hbd:=Qs m.out j (by omega) (by have:=p.out;omega);have HN:Hid (big (l.take (j+1))=256*big (l.take j)+l[j]?.getD 0):=QA b;have hy:0<=l[j]?.getD 0/\l[j]?.getD 0<256:=by
    rw[List.getElem?_eq_getElem b];exact m.out _ (List.getElem_mem _)
   clear b;generalize l[j]?.getD 0=y at t hy HN;generalize big (l.take j)=z at hbd HN;obtain⟨B,F⟩:=hy;obtain⟨P,X⟩:=hbd;have N:=V.wJ z y P (by omega) B F;go_wp2_with fail;exact⟨⟨j+1,by omega,by go_num,by rw[HN.out,Int.mul_comm],HB⟩,by simp[intOf];omega⟩
  have r:¬(j:Int)<(K:Int):=by omega
  obtain rfl:j=K:=by omega
  have HWz:=HW.out;generalize big (l.take j)=z at HWz;go_wp2_with (first|(go_at_call 178;refine(HWz _).mono ?_;rintro e T ⟨rfl,rfl⟩));go_ret3
  exact⟨rfl,HB.out⟩
theorem ztj(s:ByteArray)(b k:Int)(l:List Int)(w:World)(hs:V.ints s=k::l)(L:s.size<=200)(h:¬(l.length:Int)<k)(hb:U.qG k=true)(hw:U.jI (big (l.take k.toNat)) k b=true):Cl 155 #[.string s,.int .i64 b] w (.tuple #[.int .i64 (U.near (big (l.take k.toNat)) (U.zA k) b),.string (s.extract (1+k.toNat) s.size),.nilIface]):=by
 have g:s.size=l.length+1:=by rw[<-zg,hs];rfl
 have p:Bytes l:=λz g=>zu s z (by rw[hs];simp[g]);have J:0<=k/\k<256:=zu s k (by rw[hs];simp);have O:=x8 (d:=s) (by omega);have H:=λW=>jP s k l hs W;have F:s.size<=9223372036854775807:=by omega
 have T:∀W:World,(Instr.slice 9 (.string s) (some (.int .i64 1)) none none).run Tryz.prog W=.ok (.string (s.extract 1 s.size)) W:=λW=>je s 1 (by omega) F W;have hid:V.ints (s.extract 1 s.size)=l:=by rw[qY s 1 (by omega),hs];rfl
 have S:(s.extract 1 s.size).size=l.length:=by rw[<-zg,hid]
 have HIX:Hid (∀(i:Nat) (W:World),i<l.length->(Instr.index 9 (.string (s.extract 1 s.size)) (.int .i64 (i:Int))).run Tryz.prog W=.ok (.int .u8 (l[i]?.getD 0)) W):=λi W G=>by
  have:=jU (d:=s.extract 1 s.size) (k:=i) (by omega) W;rw[hid]at this;exact this
 obtain⟨K,rfl⟩:∃K:Nat,k=(K:Int):=⟨k.toNat,by omega⟩;have C:¬(s.size:Int)<=(K:Int):=by omega
 have HEX:Hid (∀a,a<=l.length->(s.extract 1 s.size).extract a (s.extract 1 s.size).size=s.extract (1+a) s.size):=λa D=>by
  apply jq;rw[qY _ _ (by omega),hid,qY _ _ (by omega),hs,show 1+a=a+1 by omega,List.drop_succ_cons]
 generalize v:s.extract 1 s.size=B at*;have m:Hid ((K:Nat)<=l.length):=by show _<=_;omega
 have r:=zC g;have n:=zC p;clear g hs hid v p;rw[Int.toNat_natCast]at hw |-;have q:Hid (K<=4):=by show _<=_;have:=U.vD hb;omega
 have HW:Hid (∀W,Cs 178 #[.int .i64 (big (l.take K)),.int .i64 (K:Int),.int .i64 b] W (.tuple #[.int .i64 (U.near (big (l.take K)) (U.zA K) b),.nilIface])):=λW=>U.zuu _ _ b W hw;have x:=λW=>je B K (by have:=m.out;omega) (by have:=r.out;omega) W;rw[HEX.out K m.out]at x;clear hb h hw;generalize U.near (big (l.take K)) (U.zA K) b=N at*;generalize s.extract (1+K) s.size=X at*;go_enter Tryz.func155,Tryz.ntmps155
 go_wp2_with fail;go_quiet (fail)
 go_wp2_with fail;go_loopw [9,30] (λc i P=>∃(j:Nat),j<=K/\i=.int .i64 (j:Int)/\c=.int .i64 (big (l.take j))/\Hid (Below w.heap.size w P)) (λ_ i _=>K-(intOf i).toNat)
 case atStart=>exact⟨0,Nat.zero_le _,rfl,rfl,below_drewN (Below.refl _ _) _⟩
 case round=>
  obtain⟨j,I,rfl,rfl,HB⟩:=hrel;by_cases M:j<K
  .have t:(j:Int)<(K:Int):=by omega
   have f:j<l.length:=by have:=m.out;omega
   have u:=λW=>HIX.out j W f;have hbd:=Qs n.out j (by omega) (by have:=q.out;omega);have HN:Hid (big (l.take (j+1))=256*big (l.take j)+l[j]?.getD 0):=QA f;have hy:0<=l[j]?.getD 0/\l[j]?.getD 0<256:=by
    rw[List.getElem?_eq_getElem f];exact n.out _ (List.getElem_mem _)
   clear f;generalize l[j]?.getD 0=y at u hy HN;generalize big (l.take j)=z at hbd HN;obtain⟨Q,o⟩:=hy;obtain⟨A,Z⟩:=hbd;have R:=V.wJ z y A (by omega) Q o;go_wp2_with fail;exact⟨⟨j+1,by omega,by go_num,by rw[HN.out,Int.mul_comm],HB⟩,by simp[intOf];omega⟩
  have t:¬(j:Int)<(K:Int):=by omega
  obtain rfl:j=K:=by omega
  have HWz:=HW.out;generalize big (l.take j)=z at HWz;go_wp2_with (first|(go_at_call 178;refine(HWz _).mono ?_;rintro e Y ⟨rfl,rfl⟩));go_quiet (fail)
  go_wp2_with fail;go_ret3
  exact⟨rfl,below_drewN HB.out _⟩
theorem wh{w:World}{B e d n:Nat}{v:Value}{K:List Value}(h:w.ownsRow B e d v n K):∃a c,v=.slice a n c:=by
 rcases h.2 with⟨rfl,rfl⟩|⟨g,b,f,rfl,_⟩;exact ⟨none,0,rfl⟩;exact ⟨_,b,rfl⟩
theorem zly{w:World}{B d e f n:Nat}{v:Value}{K:List Value}(h:w.ownsRow B e f v n K)(k:d<=B):w.ownsRow d e f v n K:=
 ⟨h.1,h.2.imp id (λ⟨g,i,j,a,b,c⟩=>⟨g,i,j,a,Nat.le_trans k b,c⟩)⟩
theorem zs8(w:World):Cl 156 #[.string {data:=#[]}] w (.tuple #[.slice none 0 0,.iface 133 (.int .i64 2)]):=by
 go_enter Tryz.func156,Tryz.ntmps156
 go_wp2_with fail;go_ret2
 exact⟨rfl,Below.refl _ _⟩
abbrev WH(s:ByteArray)(w:World)(e:Ending)(E:World):Prop:=
 ((fin (qF s)=none/\e=.returned (.tuple #[.slice none 0 0,.iface 133 (.int .i64 2)]))\/(∃l v a,fin (qF s)=some l/\e=.returned (.tuple #[v,.nilIface])/\FOwn E w.heap.size v a l))/\Below w.heap.size w E
theorem zta(s:ByteArray)(w:World)(o:V.Forms w)(U:Cnts w)(C:s.size<=200)(B:s.size≠0):Calls Tryz.prog 156 #[.string s] w (WH s w):=by
 obtain⟨i0,X,a6,a7,a8⟩:=info_parts QU;have ab:=x8 (d:=s) B;have q:Hid (V.Forms w/\Cnts w):=⟨o,U⟩;have H:=zC B;have J:=zC C;clear o U B C;go_enter Tryz.func156,Tryz.ntmps156
 go_wp2_with fail;go_loopg [0,4] s.size (λN s0 s4 wr=>∃(r:ByteArray) (L:List F) (p:List Value),s0=.string r/\r.size<=N/\Hid (r.size<=200)/\Hid (FOwn wr w.heap.size s4 p L)/\L.length<=12/\Hid (kg L r=qF s)/\Hid (L.length=0->r.size≠0)/\Hid (Below w.heap.size w wr))
 case atStart=>exact⟨s,[],[],rfl,Nat.le_refl _,J,FOwn.nil _ _,by simp,eO s,λ_=>H.out,Below.refl _ _⟩
 case round=>
  obtain⟨r,L,p,rfl,hg,K,HO,O,HRD,HN0,c⟩:=hrel;obtain⟨a4,c4,a3⟩:=wh HO.out.own;subst a3;have ad:=K.out;by_cases hr0:r.size=0
  .obtain rfl:=vS hr0;have Y:1<=L.length:=by
    by_cases e:L.length=0;exact absurd hr0 (HN0.out e);.omega
   have l:Hid (fin (qF s)=some L):=by
    show _=_;rw[<-HRD.out,eF hr0,Y6 Y O]
   go_wp2_with fail;go_ret2
   exact⟨.inr ⟨L,_,p,l.out,rfl,HO.out⟩,c.out⟩
  have ac:=x8 (d:=r) hr0;by_cases hfull:L.length=12
  .have l:Hid (fin (qF s)=none):=by
    show _=_;rw[<-HRD.out,zga hfull hr0]
   rw[hfull]at*;go_wp2_with fail;go_ret2
   exact⟨.inl ⟨l.out,rfl⟩,c.out⟩
  have gf:¬(L.length:Int)=12:=by omega
  have v:r.size<=maxLen:=by unfold maxLen;omega
  cases hf:jL r with
  |none=>
   have n:=zgh r wr (q.out.2.below c.out) (q.out.1.below c.out) v hf;have l:Hid (fin (qF s)=none):=by
    show _=_;rw[<-HRD.out,eG hr0 hf];rfl
   simp only[wZ,xS]at n;clear hf v;generalize L.length=m at*;go_wp2_with (first|(go_at_call 179;refine n.mono ?_;rintro e b ⟨rfl,u⟩;have j:=c.out.trans (u.mono c.out.size)));go_ret2
   exact⟨.inl ⟨l.out,rfl⟩,j.alloc j.size _⟩
  |some y=>
   obtain⟨⟨a,M,d⟩,i⟩:=y;have n:=zgi r wr (q.out.2.below c.out) (q.out.1.below c.out) v a M d i hf;obtain⟨A,aa,Z⟩:=VU (L:=L) hf;have I:Hid (fF (a,M,d)=0):=A;have HRD2:Hid (kg (L++[(a,M,d)]) (r.extract i r.size)=qF s):=by
    show _=_;rw[<-eH hr0 hf];exact HRD.out
   have ae:=λW=>je r i Z (by omega) W;have hrs:(r.extract i r.size).size=r.size-i:=by rw[ByteArray.size_extract];omega
   have HM:Hid ((r.extract i r.size).size<r.size):=by show _<_;omega
   clear hf v A HRD;generalize r.extract i r.size=G at*;clear hrs;go_wp2_with fail;refine n.mono ?_;rintro e b ⟨v1,rfl,ho1,u⟩;obtain⟨g,h,a5⟩:=wh ho1;subst a5;have j:=c.out.trans (u.mono c.out.size);have x:Below b.heap.size b (b.alloc (.cells #[.int .i64 a,.slice g M.length h,.string d] 141)):=(Below.refl _ b).alloc (Nat.le_refl _) _;have t:Below b.heap.size b ((b.alloc (.cells #[.int .i64 a,.slice g M.length h,.string d] 141)).alloc (.cells #[.int .i64 a,.slice g M.length h,.string d] 141)):=x.alloc x.size _
   have Q:=j.trans (t.mono j.size);have P:=(HO.out.below u).below t;have a0:=yt (ho1.below t) c.out.size;have hcn:=wR (b.alloc (.cells #[.int .i64 a,.slice g M.length h,.string d] 141)) a (.slice g M.length h) d 141;have R:=wW a g M.length h d;have D:w.heap.size<=((b.alloc (.cells #[.int .i64 a,.slice g M.length h,.string d] 141)).alloc (.cells #[.int .i64 a,.slice g M.length h,.string d] 141)).heap.size:=Q.size
   have E:(b.alloc (.cells #[.int .i64 a,.slice g M.length h,.string d] 141)).heap.size=b.heap.size+1:=by simp
   rw[E]at hcn;clear n x t j E;go_wp2_with (at_builtin;refine wpList_append_own_at _ rfl (.tmp 26) (.tmp 28) 139 rfl w.heap.size 141 i0 _ 3 48 Tryz.underlying139 X a6 a7 a8 rfl (by decide) _ _ (jA p L) rfl P.own ⟨b.heap.size+1,0,none⟩ 1 1 [Value.int .i64 a,.slice g M.length h,.string d] rfl rfl hcn R (by unfold maxLen;omega) (by omega) D ?_;intro v5 w5 a2 z _ a9);have T:=P.app (f:=(a,M,d)) a0 I.out a2 z
   have S:=Q.grown z D (λk e=>(P.own.lt k e).1);go_roundg G.size
   case measure=>have:=HM.out;omega
   case rel=>exact⟨G,L++[(a,M,d)],p++[Value.slice g M.length h],rfl,Nat.le_refl _,(show _<=_ by have:=HM.out;omega),T,by rw[List.length_append];simp;omega,HRD2.out,(λe=>by rw[List.length_append]at e;simp at e),S⟩
theorem iB(s:ByteArray)(w:World)(c:V.Forms w)(b:Cnts w)(d:s.size<=200):Calls Tryz.prog 156 #[.string s] w (WH s w):=by
 by_cases h0:s.size=0;obtain rfl:=vS h0;exact(zs8 w).mono λe E a=>⟨.inl ⟨by rw[Xt h0];rfl,a.1⟩,a.2⟩;exact zta s w c b d h0
theorem zs9(s:ByteArray)(w:World)(b:V.Forms w)(a:Cnts w)(d:s.size<=200)(h:fin (qF s)=none):Cl 156 #[.string s] w (.tuple #[.slice none 0 0,.iface 133 (.int .i64 2)]):=by
 refine(iB s w b a d).mono ?_;rintro e E ⟨⟨_,rfl⟩|⟨l,v,f,h1,_⟩,c⟩;exact ⟨rfl,c⟩;rw [h]at h1;cases h1
theorem ztb(s:ByteArray)(w:World)(c:V.Forms w)(b:Cnts w)(f:s.size<=200)(l:List F)(h:fin (qF s)=some l):Calls Tryz.prog 156 #[.string s] w λe E=>∃v a,e=.returned (.tuple #[v,.nilIface])/\FOwn E w.heap.size v a l/\Below w.heap.size w E:=by
 refine(iB s w c b f).mono ?_;rintro e E ⟨⟨h1,_⟩|⟨i,v,a,h1,rfl,g⟩,d⟩;rw [h]at h1;cases h1;rw [h]at h1;cases h1;exact⟨v,a,rfl,g,d⟩
theorem iD(s:ByteArray)(b:Int)(w:World)(f:s.size<=200):Calls Tryz.prog 155 #[.string s,.int .i64 b] w λe E=>((jX s b=none/\e=.returned (.tuple #[.int .i64 0,.string {data:=#[]},.iface 133 (.int .i64 2)]))\/(∃n c,jX s b=some (n,c)/\e=.returned (.tuple #[.int .i64 n,.string (s.extract c s.size),.nilIface])))/\Below w.heap.size w E:=by
 unfold jX
 cases d:V.ints s with
 |nil=>
  obtain rfl:s={data:=#[]}:=vS (by rw[<-zg,d];rfl);exact(ztf b w).mono λe E a=>⟨.inl ⟨rfl,a.1⟩,a.2⟩
 |cons k l=>
  simp only;by_cases h:(l.length:Int)<k;rw [if_pos (Or.inr h)];exact(zti s b k l w d f h).mono λe E a=>⟨.inl ⟨rfl,a.1⟩,a.2⟩;cases g:U.qG k with
  |false=>
   rw[if_pos (Or.inl rfl)];exact(zte s b k l w d f h g).mono λe E a=>⟨.inl ⟨rfl,a.1⟩,a.2⟩
  |true=>
   rw[if_neg (λa=>by rcases a with e|e;cases e;exact h e)]
   cases i:U.jI (big (l.take k.toNat)) k b with
   |false=>
    rw[if_pos rfl];exact(ztg s b k l w d f h g i).mono λe E a=>⟨.inl ⟨rfl,a.1⟩,a.2⟩
   |true=>
    rw[if_neg (by decide)];exact(ztj s b k l w d f h g i).mono λe E a=>⟨.inr ⟨_,_,rfl,a.1⟩,a.2⟩
theorem zth(s:ByteArray)(a:Int)(w:World)(d:s.size<=200)(h:jX s a=none):Cl 155 #[.string s,.int .i64 a] w (.tuple #[.int .i64 0,.string {data:=#[]},.iface 133 (.int .i64 2)]):=by
 refine(iD s a w d).mono ?_;rintro e E ⟨⟨_,rfl⟩|⟨n,c,h1,_⟩,b⟩;exact ⟨rfl,b⟩;rw [h]at h1;cases h1
theorem iE(s:ByteArray)(a:Int)(w:World)(d:s.size<=200)(n:Int)(c:Nat)(h:jX s a=some (n,c)):Cl 155 #[.string s,.int .i64 a] w (.tuple #[.int .i64 n,.string (s.extract c s.size),.nilIface]):=by
 refine(iD s a w d).mono ?_;rintro e E ⟨⟨h1,_⟩|⟨g,f,h1,rfl⟩,b⟩;rw [h]at h1;cases h1;rw [h]at h1;cases h1;exact⟨rfl,b⟩
theorem znh(s:ByteArray)(a:Int)(w:World)(h:a<0):Cl 131 #[.string s,.int .i64 a] w (.tuple #[.int .i64 0,.slice none 0 0,.iface 133 (.int .i64 1)]):=by
 go_enter Tryz.func131,Tryz.ntmps131
 go_wp2_with fail;go_ret3
 exact⟨rfl,Below.refl _ _⟩
theorem zni(s:ByteArray)(a:Int)(w:World)(b:¬a<0)(h:1073741823<a):Cl 131 #[.string s,.int .i64 a] w (.tuple #[.int .i64 0,.slice none 0 0,.iface 133 (.int .i64 1)]):=by
 go_enter Tryz.func131,Tryz.ntmps131
 go_wp2_with fail;go_ret3
 exact⟨rfl,Below.refl _ _⟩
theorem znj(s:ByteArray)(a:Int)(w:World)(b:U.zH a=true)(h:200<s.size)(g:s.size<=9223372036854775807):Cl 131 #[.string s,.int .i64 a] w (.tuple #[.int .i64 0,.slice none 0 0,.iface 133 (.int .i64 4)]):=by
 obtain⟨i,j⟩:=U.zo b;have c:¬a<0:=by omega
 have d:¬(1073741823:Int)<a:=by omega
 have f:(200:Int)<(s.size:Int):=by omega
 clear b;go_enter Tryz.func131,Tryz.ntmps131
 go_wp2_with fail;go_ret3
 exact⟨rfl,Below.refl _ _⟩
theorem znk(s:ByteArray)(a:Int)(w:World)(c:U.zH a=true)(b:s.size<=200)(h:jX s a=none):Cl 131 #[.string s,.int .i64 a] w (.tuple #[.int .i64 0,.slice none 0 0,.iface 133 (.int .i64 2)]):=by
 obtain⟨k,l⟩:=U.zo c;have g:¬a<0:=by omega
 have i:¬(1073741823:Int)<a:=by omega
 have j:¬(200:Int)<(s.size:Int):=by omega
 have m:s.size<=9223372036854775807:=by omega
 have d:=zth s a w b h;clear c b h;go_enter Tryz.func131,Tryz.ntmps131
 go_wp2_with (first|(go_at_call 155;refine d.mono ?_;rintro e n ⟨rfl,f⟩));go_ret3
 exact⟨rfl,f⟩
theorem znl(s:ByteArray)(a:Int)(w:World)(g:V.Forms w)(f:Cnts w)(k:U.zH a=true)(j:s.size<=200)(n:Int)(c:Nat)(h:jX s a=some (n,c))(d:fin (qF (s.extract c s.size))=none):Cl 131 #[.string s,.int .i64 a] w (.tuple #[.int .i64 0,.slice none 0 0,.iface 133 (.int .i64 2)]):=by
 obtain⟨v,x⟩:=U.zo k;have q:¬a<0:=by omega
 have t:¬(1073741823:Int)<a:=by omega
 have u:¬(200:Int)<(s.size:Int):=by omega
 have y:s.size<=9223372036854775807:=by omega
 have HN:=iE s a w j n c h;have l:(s.extract c s.size).size<=200:=by rw[ByteArray.size_extract];omega
 have HT:=λW (i:Below w.heap.size w W)=>zs9 (s.extract c s.size) W (g.below i) (f.below i) l d;clear k j h d g f l;generalize s.extract c s.size=r at*;go_enter Tryz.func131,Tryz.ntmps131
 go_wp2_with (first|(go_at_call 155;refine HN.mono ?_;rintro e B ⟨rfl,b⟩)|(go_at_call 156;refine(HT _ b).mono ?_;rintro e F ⟨rfl,p⟩;have m:=b.trans (p.mono b.size)));go_ret3
 exact⟨rfl,m⟩
theorem znm(s:ByteArray)(a:Int)(w:World)(i:V.Forms w)(g:Cnts w)(p:U.zH a=true)(m:s.size<=200)(n:Int)(c:Nat)(h:jX s a=some (n,c))(l:List F)(f:fin (qF (s.extract c s.size))=some l):Calls Tryz.prog 131 #[.string s,.int .i64 a] w λe E=>∃v d,e=.returned (.tuple #[.int .i64 n,v,.nilIface])/\FOwn E w.heap.size v d l/\Below w.heap.size w E:=by
 obtain⟨A,C⟩:=U.zo p;have Q:¬a<0:=by omega
 have o:¬(1073741823:Int)<a:=by omega
 have z:¬(200:Int)<(s.size:Int):=by omega
 have D:s.size<=9223372036854775807:=by omega
 have HN:=iE s a w m n c h;have q:(s.extract c s.size).size<=200:=by rw[ByteArray.size_extract];omega
 have HT:=λW (k:Below w.heap.size w W)=>ztb (s.extract c s.size) W (i.below k) (g.below k) q l f;clear p m h f i g q;generalize s.extract c s.size=r at*;go_enter Tryz.func131,Tryz.ntmps131
 go_wp2_with (first|(go_at_call 155;refine HN.mono ?_;rintro e G ⟨rfl,b⟩)|(go_at_call 156;refine(HT _ b).mono ?_;rintro e H ⟨v,d,rfl,ho,u⟩;obtain⟨B,P,y⟩:=wh ho.own;subst y;have t:=b.trans (u.mono b.size)));go_ret3
 exact⟨_,d,rfl,⟨ho.len,zly ho.own b.size,λj x=>yt (ho.rows j x) b.size,ho.good⟩,t⟩
variable {s:ByteArray}{a:Int}
theorem bW(h:xO s a≠0):(U.zH a=false/\xO s a=1)\/(U.zH a=true/\200<s.size/\xO s a=4)\/(U.zH a=true/\s.size<=200/\xZ s a=none/\xO s a=2):=by
 unfold xO at h |-
 cases d:U.zH a with
 |false=>exact .inl ⟨rfl,by simp⟩
 |true=>
  rw[d]at h;simp only[Bool.true_eq_false,if_false]at h |-;by_cases b:200<s.size;exact .inr (.inl ⟨trivial,b,by rw[if_pos b]⟩);rw [if_neg b]at h |-;by_cases c:xZ s a=none;exact .inr (.inr ⟨trivial,by omega,c,by rw[if_pos c]⟩);rw [if_neg c]at h;exact absurd rfl h
theorem bY(h:xO s a=0):U.zH a=true/\s.size<=200/\∃n l,xZ s a=some (n,l):=by
 unfold xO at h
 cases c:U.zH a with
 |false=>rw[c]at h;simp at h
 |true=>
  rw[c]at h;simp only[Bool.true_eq_false,if_false]at h;by_cases b:200<s.size;rw [if_pos b]at h;cases h;rw [if_neg b]at h;cases d:xZ s a with
  |none=>rw[if_pos d]at h;cases h
  |some x=>exact⟨rfl,by omega,x.1,x.2,rfl⟩
theorem zov(h:xZ s a=none):jX s a=none\/∃n c,jX s a=some (n,c)/\fin (qF (s.extract c s.size))=none:=by
 unfold xZ at h
 cases h1:jX s a with
 |none=>exact .inl rfl
 |some x=>
  obtain⟨n,c⟩:=x
  rw[h1,Option.bind_some]at h
  cases b:fin (qF (s.extract c s.size))with
  |none=>exact .inr ⟨n,c,rfl,b⟩
  |some l=>rw[b]at h;cases h
theorem ZM{b n:Int}(h:xZ s b=some (n,l)):∃c,jX s b=some (n,c)/\fin (qF (s.extract c s.size))=some l:=by
 unfold xZ at h
 cases h1:jX s b with
 |none=>rw[h1]at h;cases h
 |some x=>
  obtain⟨e,c⟩:=x
  rw[h1,Option.bind_some]at h
  cases a:fin (qF (s.extract c s.size))with
  |none=>rw[a]at h;cases h
  |some d=>
   rw[a]at h;simp only[Option.map_some,Option.some.injEq,Prod.mk.injEq]at h;obtain⟨rfl,rfl⟩:=h;exact⟨c,rfl,a⟩
theorem zm9(s:ByteArray)(a:Int)(w:World)(k:V.Forms w)(j:Cnts w)(l:s.size<=9223372036854775807)(h:xO s a≠0):Cl 131 #[.string s,.int .i64 a] w (.tuple #[.int .i64 0,.slice none 0 0,zN (xO s a)]):=by
 rcases bW h with⟨b,e⟩|⟨b,d,e⟩|⟨b,d,g,e⟩;rw [e];rcases U.Zb b with h|h;exact znh s a w h;exact zni s a w (by omega) h;rw [e];exact znj s a w b d l;rw [e];rcases zov g with f|⟨n,c,f,i⟩;exact znk s a w b d f;exact znl s a w k j b d n c f i
theorem VI(s:ByteArray)(a:Int)(w:World)(g:V.Forms w)(f:Cnts w)(j:U.zH a=true)(i:s.size<=200)(n:Int)(l:List F)(h:xZ s a=some (n,l)):Calls Tryz.prog 131 #[.string s,.int .i64 a] w λe E=>∃v k,e=.returned (.tuple #[.int .i64 n,v,.nilIface])/\FOwn E w.heap.size v k l/\Below w.heap.size w E:=by
 obtain⟨c,b,d⟩:=ZM h;exact znm s a w g f j i n c b l d
end Go.Proofs.YtdokgalidhmbbaaGreatDoor
