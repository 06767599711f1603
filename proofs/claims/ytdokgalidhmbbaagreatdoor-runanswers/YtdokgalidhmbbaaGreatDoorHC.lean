/- What the law RunAnswers needs. -/
import Derived.Test.YtdokgalidhmbbaaGreatDoorHQ
set_option linter.unusedVariables false
set_option linter.unusedSimpArgs false
set_option maxRecDepth 100000
set_option maxHeartbeats 8000000
namespace Go.Proofs.YtdokgalidhmbbaaGreatDoor.Cx
open Go.RowKit Go.Lib Go.Sort
structure St where
 win:Int
 lim:Int
 came:Int
 read:Int
def zX(n:Int):Bool:=decide (0<=n/\n<=1073741823)
def vL(n:Int):Bool:=decide (1<=n/\n<=1000)
def qE(n:Int):St:=⟨n,n,0,0⟩
def qh(s:St)(u:Int):Int:=if zX u=false then 1 else if s.lim<u then 8 else 0
def zq(s:St)(u:Int):St:=⟨s.win,s.lim,if s.came<u then u else s.came,s.read⟩
def zm(s:St)(u:Int):St:=if qh s u=0 then zq s u else s
def xN(s:St)(n:Int):Int:=if s.win/2<s.read+n-(s.lim-s.win)then s.read+n+s.win else s.lim
def qx(s:St)(n:Int):Int:=if n<0 then 1 else if s.came-s.read<n then 8 else if zX (xN s n)=false then 4 else 0
def ZJ(s:St)(n:Int):Int:=if qx s n=0 then xN s n else 0
def xM(s:St)(n:Int):St:=if qx s n=0 then⟨s.win,xN s n,s.came,s.read+n⟩else s
structure Inv(s:St):Prop where
 w1:1<=s.win
 w2:s.win<=1000
 l1:s.win<=s.lim
 l2:s.lim<=1073741823
 c1:s.read<=s.came
 c2:s.came<=s.lim
 r1:s.lim-s.win<=s.read
 r2:s.read-(s.lim-s.win)<=s.win/2
variable {n:Int}
theorem Inv.start(h:vL n=true):Inv (qE n):=by
 have h:1<=n/\n<=1000:=of_decide_eq_true h;constructor<;>simp only[qE]<;>omega
variable {s:St}{u:Int}
theorem zsa(h:zX u=false):qh s u=1:=by simp[qh,h]
theorem zr9(h:zX u=true)(a:s.lim<u):qh s u=8:=by simp[qh,h,a]
theorem zsb(h:zX u=true)(a:u<=s.lim):qh s u=0:=by
 have:¬s.lim<u:=by omega
 simp[qh,h,this]
theorem JI(h:qh s u=0):zm s u=zq s u:=if_pos h
theorem ZV(h:qh s u≠0):zm s u=s:=if_neg h
theorem Inv.up(h:Inv s)(a:u<=s.lim):Inv (zq s u):=by
 obtain⟨_,_,_,_,_,_,_,_⟩:=h;constructor<;>simp only[zq]<;>first|omega|(split<;>omega)
theorem Vq(s:St)(u:Int):(qh s u=1/\zX u=false)\/(qh s u=8/\zX u=true/\s.lim<u)\/(qh s u=0/\zX u=true/\u<=s.lim):=by
 cases h:zX u with
 |false=>exact .inl ⟨zsa h,rfl⟩
 |true=>
  by_cases a:s.lim<u;exact .inr (.inl ⟨zr9 h a,rfl,a⟩);exact .inr (.inr ⟨zsb h (by omega),rfl,by omega⟩)
theorem zg3(h:n<0):qx s n=1:=if_pos h
theorem zg1(h:0<=n)(a:s.came-s.read<n):qx s n=8:=by
 have:¬n<0:=by omega
 simp[qx,this,a]
theorem zg2(h:0<=n)(d:n<=s.came-s.read)(c:zX (xN s n)=false):qx s n=4:=by
 have a:¬n<0:=by omega
 have b:¬s.came-s.read<n:=by omega
 simp[qx,a,b,c]
theorem Yj(h:0<=n)(d:n<=s.came-s.read)(c:zX (xN s n)=true):qx s n=0:=by
 have a:¬n<0:=by omega
 have b:¬s.came-s.read<n:=by omega
 simp[qx,a,b,c]
theorem KF(s:St)(n:Int):(qx s n=1/\n<0)\/(qx s n=8/\0<=n/\s.came-s.read<n)\/(qx s n=4/\0<=n/\n<=s.came-s.read/\zX (xN s n)=false)\/(qx s n=0/\0<=n/\n<=s.came-s.read/\zX (xN s n)=true):=by
 by_cases h:n<0
 .exact .inl ⟨zg3 h,h⟩
 by_cases a:s.came-s.read<n
 .exact .inr (.inl ⟨zg1 (by omega) a,by omega,a⟩)
 cases b:zX (xN s n)with
 |false=>exact .inr (.inr (.inl ⟨zg2 (by omega) (by omega) b,by omega,by omega,rfl⟩))
 |true=>exact .inr (.inr (.inr ⟨Yj (by omega) (by omega) b,by omega,by omega,rfl⟩))
theorem zg5(h:qx s n=0):ZJ s n=xN s n:=if_pos h
theorem KG(h:qx s n≠0):ZJ s n=0:=if_neg h
theorem QT(h:qx s n=0):xM s n=⟨s.win,xN s n,s.came,s.read+n⟩:=if_pos h
theorem yG(h:qx s n≠0):xM s n=s:=if_neg h
theorem Ze(h:s.win/2<s.read+n-(s.lim-s.win)):xN s n=s.read+n+s.win:=if_pos h
theorem Zd(h:s.read+n-(s.lim-s.win)<=s.win/2):xN s n=s.lim:=if_neg (by omega)
theorem Inv.got(h:Inv s)(c:0<=n)(d:n<=s.came-s.read)(a:zX (xN s n)=true):Inv ⟨s.win,xN s n,s.came,s.read+n⟩:=by
 have a:0<=xN s n/\xN s n<=1073741823:=of_decide_eq_true a;obtain⟨_,_,_,_,_,_,_,_⟩:=h;by_cases b:s.win/2<s.read+n-(s.lim-s.win);rw [Ze b]at a |-;constructor<;>simp only<;>omega
 rw [Zd (by omega)]at a |-;constructor<;>simp only<;>omega
theorem Inv.take(h:Inv s)(u:Int):Inv (zm s u):=by
 rcases Vq s u with⟨e,_⟩|⟨e,_⟩|⟨e,_,a⟩;rw [ZV (by rw[e];decide)];exact h;rw [ZV (by rw[e];decide)];exact h;rw [JI e];exact h.up a
theorem Inv.get(h:Inv s)(n:Int):Inv (xM s n):=by
 rcases KF s n with⟨e,_⟩|⟨e,_⟩|⟨e,_⟩|⟨e,a,b,c⟩;rw [yG (by rw[e];decide)];exact h;rw [yG (by rw[e];decide)];exact h;rw [yG (by rw[e];decide)];exact h;rw [QT e];exact h.got a b c
structure Four(w:World)(sb:Nat)(s:St):Prop where
 c0:w.cell? ⟨sb,0,none⟩=some (.int .i64 s.win)
 c1:w.cell? ⟨sb,1,none⟩=some (.int .i64 s.lim)
 c2:w.cell? ⟨sb,2,none⟩=some (.int .i64 s.came)
 c3:w.cell? ⟨sb,3,none⟩=some (.int .i64 s.read)
 f1:w.frozen? ⟨sb,1,none⟩=false
 f2:w.frozen? ⟨sb,2,none⟩=false
 f3:w.frozen? ⟨sb,3,none⟩=false
 f0:w.frozen? ⟨sb,0,none⟩=false
section
variable {w w' : World} {B sb : Nat} {s : St}
theorem Four.lt(h:Four w sb s):sb<w.heap.size:=World.block_lt_of_cell? w _ h.c0
theorem Four.off{K:Nat->Prop}(h:Four w sb s)(b:Off K w w')(a:¬K sb):Four w' sb s:=
 ⟨b.cell h.c0 a,b.cell h.c1 a,b.cell h.c2 a,b.cell h.c3 a,(b.frozen (p:=⟨sb,1,none⟩) h.lt a).trans h.f1,(b.frozen (p:=⟨sb,2,none⟩) h.lt a).trans h.f2,(b.frozen (p:=⟨sb,3,none⟩) h.lt a).trans h.f3,(b.frozen (p:=⟨sb,0,none⟩) h.lt a).trans h.f0⟩
theorem qw{a b:Addr}{u v:Value}(h:w.cell? a=some v)(e:a.off≠b.off):(w.setCell b u).cell? a=some v:=by
 rw[World.cell?_setCell_other _ _ _ _ (by intro c;subst c;exact e rfl)];exact h
theorem Four.set2(h:Four w sb s)(u:Int):Four (w.setCell ⟨sb,2,none⟩ (.int .i64 u)) sb ⟨s.win,s.lim,u,s.read⟩:=
 ⟨qw h.c0 (by simp),qw h.c1 (by simp),World.cell?_setCell_same _ _ _ h.c2,qw h.c3 (by simp),by simpa using h.f1,by simpa using h.f2,by simpa using h.f3,by simpa using h.f0⟩
theorem Four.set1(h:Four w sb s)(u:Int):Four (w.setCell ⟨sb,1,none⟩ (.int .i64 u)) sb ⟨s.win,u,s.came,s.read⟩:=
 ⟨qw h.c0 (by simp),World.cell?_setCell_same _ _ _ h.c1,qw h.c2 (by simp),qw h.c3 (by simp),by simpa using h.f1,by simpa using h.f2,by simpa using h.f3,by simpa using h.f0⟩
theorem Four.set3(h:Four w sb s)(u:Int):Four (w.setCell ⟨sb,3,none⟩ (.int .i64 u)) sb ⟨s.win,s.lim,s.came,u⟩:=
 ⟨qw h.c0 (by simp),qw h.c1 (by simp),qw h.c2 (by simp),World.cell?_setCell_same _ _ _ h.c3,by simpa using h.f1,by simpa using h.f2,by simpa using h.f3,by simpa using h.f0⟩
theorem Four.new(w:World)(n:Int)(t:TypeId):Four (w.alloc (.cells #[.int .i64 n,.int .i64 n,.int .i64 0,.int .i64 0] t)) w.heap.size (qE n):=by
 constructor<;>simp[qE]
structure Obj(w:World)(B sb:Nat)(s:St):Prop where
 inv:Inv s
 four:Four w sb s
 hs:B<=sb
theorem Obj.off{K:Nat->Prop}(h:Obj w B sb s)(b:Off K w w')(a:¬K sb):Obj w' B sb s:=⟨h.inv,h.four.off b a,h.hs⟩
theorem Obj.below(h:Obj w B sb s)(a:Below w.heap.size w w'):Obj w' B sb s:=h.off (Off.of_below (K:=λ_=>False) a) id
theorem Obj.lt(h:Obj w B sb s):sb<w.heap.size:=h.four.lt
end
def Turned(w E:World)(B z:Nat)(s:St):Prop:=Obj E B z s/\Off (λk=>k=z) w E
variable {w:World}{B z:Nat}{s:St}
theorem Turned.same(h:Obj w B z s):Turned w w B z s:=⟨h,Off.refl _ _⟩
theorem Turned.drewN(h:Obj w B z s)(m:Nat):Turned w (w.drewN m) B z s:=⟨h.below (below_drewN (Below.refl _ _) m),Off.of_below (below_drewN (Below.refl _ _) m)⟩
theorem Turned.trans{b c:World}{a:St}(h:Turned w b B z s)(k:Turned b c B z a):Turned w c B z a:=⟨k.1,h.2.trans k.2⟩
theorem wrap_small(n:Int)(a: -10000000000<=n)(b:n<=10000000000):IntKind.i64.wrap n=n:=by simp[IntKind.wrap,IntKind.bits,IntKind.signed];omega
theorem Turned.took(h:Obj w B z s){u v:Int}(b:u<=s.lim)(c:v=if s.came<u then u else s.came):Turned w (w.setCell ⟨z,2,none⟩ (.int .i64 v)) B z (zq s u):=
 ⟨⟨h.inv.up b,by rw[c];exact h.four.set2 _,h.hs⟩,(Off.refl _ _).setCell (K:=λk=>k=z) (a:=⟨z,2,none⟩) rfl _⟩
theorem Turned.kept(h:Obj w B z s){u:Int}(a:u<=s.came):Turned w w B z (zq s u):=by
 have e:zq s u=s:=by
  have:¬s.came<u:=by omega
  cases s;simp only[zq,this,if_false]
 rw[e];exact Turned.same h
theorem Turned.got(h:Obj w B z s){n a b:Int}(c:0<=n)(d:n<=s.came-s.read)(e:zX (xN s n)=true)(L:a=s.read+n)(o:b=xN s n):
  Turned w ((w.setCell ⟨z,3,none⟩ (.int .i64 a)).setCell ⟨z,1,none⟩ (.int .i64 b)) B z ⟨s.win,xN s n,s.came,s.read+n⟩:=
 ⟨⟨h.inv.got c d e,by rw[L,o];exact(h.four.set3 _).set1 _,h.hs⟩,((Off.refl _ _).setCell (K:=λk=>k=z) (a:=⟨z,3,none⟩) rfl _).setCell (a:=⟨z,1,none⟩) rfl _⟩
theorem zia(n:Int)(w:World):Cs 91 #[.int .i64 n] w (.bool (vL n)):=by
 by_cases a:1<=n
 .by_cases b:n<=1000
  .go_enter Tryz.func91,Tryz.ntmps91
   go_wp2;go_ret;exact⟨by simp[vL]<;>omega,rfl⟩
  go_enter Tryz.func91,Tryz.ntmps91
  go_wp2;go_ret;exact⟨by simp[vL]<;>omega,rfl⟩
 go_enter Tryz.func91,Tryz.ntmps91
 go_wp2;go_ret;exact⟨by simp[vL]<;>omega,rfl⟩
theorem wD(n:Int)(w:World):Cs 194 #[.int .i64 n] w (.bool (zX n)):=by
 by_cases a:0<=n
 .by_cases b:n<=1073741823
  .go_enter Tryz.func194,Tryz.ntmps194
   go_wp2;go_ret;exact⟨by simp[zX]<;>omega,rfl⟩
  go_enter Tryz.func194,Tryz.ntmps194
  go_wp2;go_ret;exact⟨by simp[zX]<;>omega,rfl⟩
 go_enter Tryz.func194,Tryz.ntmps194
 go_wp2;go_ret;exact⟨by simp[zX]<;>omega,rfl⟩
theorem Xf(n:Int)(w:World)(h:vL n=true):Calls Tryz.prog 67 #[.int .i64 n] w λe E=>e=.returned (.tuple #[.pointer (some ⟨w.heap.size,0,none⟩),.nilIface])/\Obj E w.heap.size w.heap.size (qE n)/\Below w.heap.size w E:=by
 have hO:Obj (w.alloc (.cells #[.int .i64 n,.int .i64 n,.int .i64 0,.int .i64 0] 102)) w.heap.size w.heap.size (qE n):=⟨Inv.start h,Four.new w n _,Nat.le_refl _⟩;go_enter Tryz.func67,Tryz.ntmps67
 go_wp2_with (go_at_call 91;refine(zia n _).mono ?_;rintro e a ⟨rfl,rfl⟩;rw[h]);go_ret2
 exact⟨rfl,hO,(Below.refl _ _).alloc (Nat.le_refl _) _⟩
theorem zjm(h:Obj w B z s):Calls Tryz.prog 192 #[.pointer (some ⟨z,0,none⟩)] w λe E=>e=.returned (.int .i64 (s.came-s.read))/\∃m,E=w.drewN m:=by
 obtain⟨N,O,R,S⟩:=s;have c:=h.four.c0;have d:=h.four.c1;have f:=h.four.c2;have g:=h.four.c3;have q:=h.four.f1;have r:=h.four.f2;have t:=h.four.f3;obtain⟨n,p,i,j,a,b,k,l⟩:=h.inv;simp only at c d f g n p i j a b k l |-;have u:=wrap_small (R-S) (by omega) (by omega);go_enter Tryz.func192,Tryz.ntmps192
 go_wp2_with fail;go_quiet (fail)
 go_wp2_with fail;go_ret;exact⟨rfl,_,rfl⟩
theorem KW(h:Obj w B z s):Calls Tryz.prog 192 #[.pointer (some ⟨z,0,none⟩)] w λe E=>e=.returned (.int .i64 (s.came-s.read))/\Turned w E B z s:=
 (zjm h).mono λe E ⟨a,m,b⟩=>⟨a,by rw[b];exact Turned.drewN h m⟩
variable {N O S:Int}
theorem zbb{R:Int}(h:Obj w B z ⟨N,O,R,S⟩)(r:Int)(t:0<=r)(u:r<=1073741823)(v:N/2<r-(O-N)):Calls Tryz.prog 193 #[.pointer (some ⟨z,0,none⟩),.int .i64 r] w λe E=>e=.returned (.int .i64 (r+N))/\Turned w E B z ⟨N,O,R,S⟩:=by
 have c:=h.four.c0;have d:=h.four.c1;have f:=h.four.c2;have g:=h.four.c3;have p:=h.four.f1;have q:=h.four.f2;have s:=h.four.f3;obtain⟨m,n,i,j,a,b,k,l⟩:=h.inv;simp only at c d f g m n i j a b k l;have x:=wrap_small (O-N) (by omega) (by omega);go_enter Tryz.func193,Tryz.ntmps193
 go_wp2_with fail;go_quiet (fail)
 go_wp2_with fail;go_ret;exact⟨rfl,Turned.drewN h _⟩
theorem zbc{R:Int}(h:Obj w B z ⟨N,O,R,S⟩)(r:Int)(t:0<=r)(u:r<=1073741823)(v:r-(O-N)<=N/2):Calls Tryz.prog 193 #[.pointer (some ⟨z,0,none⟩),.int .i64 r] w λe E=>e=.returned (.int .i64 (O))/\Turned w E B z ⟨N,O,R,S⟩:=by
 have c:=h.four.c0;have d:=h.four.c1;have f:=h.four.c2;have g:=h.four.c3;have p:=h.four.f1;have q:=h.four.f2;have s:=h.four.f3;obtain⟨m,n,i,j,a,b,k,l⟩:=h.inv;simp only at c d f g m n i j a b k l;have x:=wrap_small (O-N) (by omega) (by omega);go_enter Tryz.func193,Tryz.ntmps193
 go_wp2_with fail;go_quiet (fail)
 go_wp2_with fail;go_ret;exact⟨rfl,Turned.drewN h _⟩
theorem WT(h:Obj w B z s){n:Int}(l:0<=n)(h1:n<=s.came-s.read):Calls Tryz.prog 193 #[.pointer (some ⟨z,0,none⟩),.int .i64 (s.read+n)] w λe E=>e=.returned (.int .i64 (xN s n))/\Turned w E B z s:=by
 obtain⟨N,O,R,S⟩:=s;obtain⟨j,k,d,f,b,c,g,i⟩:=h.inv;simp only at j k d f b c g i h1 |-;by_cases a:N/2<S+n-(O-N);rw [Ze (by simpa using a)];exact zbb h _ (by omega) (by omega) a;rw [Zd (by simp only;omega)];exact zbc h _ (by omega) (by omega) (by omega)
theorem zo5{R:Int}(h:Obj w B z ⟨N,O,R,S⟩)(n:Int)(k:n<0):Calls Tryz.prog 164 #[.pointer (some ⟨z,0,none⟩),.int .i64 n] w λe E=>e=.returned (.tuple #[.int .i64 0,.iface 133 (.int .i64 1)])/\Turned w E B z ⟨N,O,R,S⟩:=by
 obtain⟨i,j,c,d,a,b,f,g⟩:=h.inv;simp only at i j c d a b f g;go_enter Tryz.func164,Tryz.ntmps164
 go_wp2_with fail;go_ret2
 exact⟨rfl,Turned.same h⟩
theorem zoz{R:Int}(h:Obj w B z ⟨N,O,R,S⟩)(n:Int)(m:0<=n)(p:R-S<n):Calls Tryz.prog 164 #[.pointer (some ⟨z,0,none⟩),.int .i64 n] w λe E=>e=.returned (.tuple #[.int .i64 0,.iface 133 (.int .i64 8)])/\Turned w E B z ⟨N,O,R,S⟩:=by
 obtain⟨k,l,f,g,b,c,i,j⟩:=h.inv;simp only at k l f g b c i j;go_enter Tryz.func164,Tryz.ntmps164
 go_wp2_with fail;refine(KW h).mono ?_;rintro e q ⟨rfl,a⟩;have d:=a.1.four.c3;simp only at d |-;go_wp2_with fail;go_ret2
 exact⟨rfl,a⟩
theorem zo0{R:Int}(h:Obj w B z ⟨N,O,R,S⟩)(n:Int)(g:0<=n)(i:n<=R-S)(l:Int)(c:xN ⟨N,O,R,S⟩ n=l)(j:zX l=false):Calls Tryz.prog 164 #[.pointer (some ⟨z,0,none⟩),.int .i64 n] w λe E=>e=.returned (.tuple #[.int .i64 0,.iface 133 (.int .i64 4)])/\Turned w E B z ⟨N,O,R,S⟩:=by
 obtain⟨s,t,m,p,d,f,q,r⟩:=h.inv;simp only at s t m p d f q r;go_enter Tryz.func164,Tryz.ntmps164
 go_wp2_with fail;refine(KW h).mono ?_;rintro e y ⟨rfl,b⟩;have a:=b.1.four.c3;simp only at a |-;go_wp2_with fail;have hat:=WT b.1 g i;rw[c]at hat;have u:=zC c;clear c;simp only at hat;refine hat.mono ?_;rintro e F ⟨rfl,tb⟩;clear hat a;have tb:=b.trans tb;clear b;have k:=tb.1.four.c1;have a:=tb.1.four.c3;have v:=tb.1.four.f1;have x:=tb.1.four.f3;simp only at k a;go_wp2_with (go_at_call 194;refine(wD l _).mono ?_;rintro e P ⟨rfl,rfl⟩;rw[j])
 go_ret2
 exact⟨rfl,tb⟩
theorem zo7{R:Int}(h:Obj w B z ⟨N,O,R,S⟩)(n:Int)(f:0<=n)(g:n<=R-S)(l:Int)(c:xN ⟨N,O,R,S⟩ n=l)(i:zX l=true):Calls Tryz.prog 164 #[.pointer (some ⟨z,0,none⟩),.int .i64 n] w λe E=>e=.returned (.tuple #[.int .i64 l,.nilIface])/\Turned w E B z ⟨N,xN ⟨N,O,R,S⟩ n,R,S+n⟩:=by
 obtain⟨t,u,p,q,j,k,r,s⟩:=h.inv;simp only at t u p q j k r s;go_enter Tryz.func164,Tryz.ntmps164
 go_wp2_with fail;refine(KW h).mono ?_;rintro e y ⟨rfl,b⟩;have a:=b.1.four.c3;simp only at a |-;go_wp2_with fail;have hat:=WT b.1 f g;rw[c]at hat;have d:=zC c;clear c;simp only at hat;refine hat.mono ?_;rintro e F ⟨rfl,tb⟩;clear hat a;have tb:=b.trans tb;clear b;have m:=tb.1.four.c1;have a:=tb.1.four.c3;have v:=tb.1.four.f1;have x:=tb.1.four.f3;simp only at m a;go_wp2_with (go_at_call 194;refine(wD l _).mono ?_;rintro e P ⟨rfl,rfl⟩;rw[i])
 go_ret2
 exact⟨rfl,tb.trans (Turned.got tb.1 f g (by rw[d.out];exact i) rfl d.out.symm)⟩
theorem ZN(h:Obj w B z s)(n:Int):Calls Tryz.prog 164 #[.pointer (some ⟨z,0,none⟩),.int .i64 n] w λe E=>e=.returned (.tuple #[.int .i64 (ZJ s n),zN (qx s n)])/\Turned w E B z (xM s n):=by
 obtain⟨N,O,R,S⟩:=s;rcases KF ⟨N,O,R,S⟩ n with⟨e,a⟩|⟨e,a,b⟩|⟨e,a,b,c⟩|⟨e,a,b,c⟩;rw [yG (by rw[e];decide),KG (by rw[e];decide),e,qj (by decide)];exact zo5 h n a;rw [yG (by rw[e];decide),KG (by rw[e];decide),e,qj (by decide)];exact zoz h n a b;rw [yG (by rw[e];decide),KG (by rw[e];decide),e,qj (by decide)];exact zo0 h n a b _ rfl c;rw [QT e,zg5 e,e,jm];exact zo7 h n a b _ rfl c
end Go.Proofs.YtdokgalidhmbbaaGreatDoor.Cx
namespace Go.Proofs.YtdokgalidhmbbaaGreatDoor.Cy
open Go.RowKit Go.Lib Go.Sort
open Cx (St Inv zX qh zm zq)
structure Obj(w:World)(sb:Nat)(s:St):Prop where
 inv:Inv s
 c0:w.cell? ⟨sb,246,none⟩=some (.int .i64 s.win)
 c1:w.cell? ⟨sb,247,none⟩=some (.int .i64 s.lim)
 c2:w.cell? ⟨sb,248,none⟩=some (.int .i64 s.came)
 c3:w.cell? ⟨sb,249,none⟩=some (.int .i64 s.read)
 f2:w.frozen? ⟨sb,248,none⟩=false
structure Turned(w w':World)(sb:Nat)(s:St):Prop where
 obj:Obj w' sb s
 off:Off (λk=>k=sb) w w'
 rest:∀i,i<246\/250<=i->w'.cell? ⟨sb,i,none⟩=w.cell? ⟨sb,i,none⟩
 fz:∀i,w'.frozen? ⟨sb,i,none⟩=w.frozen? ⟨sb,i,none⟩
variable {w:World}{z:Nat}{s:St}
theorem Turned.same(h:Obj w z s):Turned w w z s:=⟨h,Off.refl _ _,λ_ _=>rfl,λ_=>rfl⟩
theorem Turned.took(h:Obj w z s){u v:Int}(b:u<=s.lim)(c:v=if s.came<u then u else s.came):Turned w (w.setCell ⟨z,248,none⟩ (.int .i64 v)) z (zq s u):=by
 refine⟨⟨h.inv.up b,Cx.qw h.c0 (by simp),Cx.qw h.c1 (by simp),by rw[c];exact World.cell?_setCell_same _ _ _ h.c2,Cx.qw h.c3 (by simp),by simpa using h.f2⟩,(Off.refl _ _).setCell (K:=λk=>k=z) (a:=⟨z,248,none⟩) rfl _,λi d=>?_,λi=>by simp⟩;exact World.cell?_setCell_other _ _ _ _ (λe=>by injection e;omega)
variable {N O S:Int}
theorem zsk{R:Int}(h:Obj w z ⟨N,O,R,S⟩)(u:Int)(c:Cx.zX u=false):Calls Tryz.prog 185 #[.pointer (some ⟨z,246,none⟩),.int .i64 u] w λe E=>e=.returned (.iface 133 (.int .i64 1))/\Turned w E z ⟨N,O,R,S⟩:=by
 have a:=h.c1;have b:=h.c2;have f:=h.f2;have d:=h.inv.l2;simp only at a b d;go_enter Tryz.func185,Tryz.ntmps185
 go_wp2_with (go_at_call 194;refine(Cx.wD u _).mono ?_;rintro e g ⟨rfl,rfl⟩;rw[c]);go_ret;exact⟨rfl,Turned.same h⟩
theorem zsh{R:Int}(h:Obj w z ⟨N,O,R,S⟩)(u:Int)(c:Cx.zX u=true)(g:O<u):Calls Tryz.prog 185 #[.pointer (some ⟨z,246,none⟩),.int .i64 u] w λe E=>e=.returned (.iface 133 (.int .i64 8))/\Turned w E z ⟨N,O,R,S⟩:=by
 have a:=h.c1;have b:=h.c2;have f:=h.f2;have d:=h.inv.l2;simp only at a b d;go_enter Tryz.func185,Tryz.ntmps185
 go_wp2_with (go_at_call 194;refine(Cx.wD u _).mono ?_;rintro e i ⟨rfl,rfl⟩;rw[c]);go_ret;exact⟨rfl,Turned.same h⟩
theorem zsm{R:Int}(h:Obj w z ⟨N,O,R,S⟩)(u:Int)(f:Cx.zX u=true)(c:u<=O)(d:R<u):Calls Tryz.prog 185 #[.pointer (some ⟨z,246,none⟩),.int .i64 u] w λe E=>e=.returned .nilIface/\Turned w E z (zq ⟨N,O,R,S⟩ u):=by
 have a:=h.c1;have b:=h.c2;have i:=h.f2;have g:=h.inv.l2;simp only at a b g;go_enter Tryz.func185,Tryz.ntmps185
 go_wp2_with (go_at_call 194;refine(Cx.wD u _).mono ?_;rintro e j ⟨rfl,rfl⟩;rw[f]);go_ret;exact⟨rfl,Turned.took h c (if_pos d).symm⟩
theorem zsn{R:Int}(h:Obj w z ⟨N,O,R,S⟩)(u:Int)(d:Cx.zX u=true)(c:u<=O)(i:u<=R):Calls Tryz.prog 185 #[.pointer (some ⟨z,246,none⟩),.int .i64 u] w λe E=>e=.returned .nilIface/\Turned w E z (zq ⟨N,O,R,S⟩ u):=by
 have a:=h.c1;have b:=h.c2;have g:=h.f2;have f:=h.inv.l2;simp only at a b f;go_enter Tryz.func185,Tryz.ntmps185
 go_wp2_with (go_at_call 194;refine(Cx.wD u _).mono ?_;rintro e j ⟨rfl,rfl⟩;rw[d]);go_ret;exact⟨rfl,Turned.took h c (if_neg (by simp only;omega)).symm⟩
theorem vK(h:Obj w z s)(u:Int):Calls Tryz.prog 185 #[.pointer (some ⟨z,246,none⟩),.int .i64 u] w λe E=>e=.returned (zN (qh s u))/\Turned w E z (zm s u):=by
 obtain⟨N,O,R,S⟩:=s;rcases Cx.Vq ⟨N,O,R,S⟩ u with⟨e,a⟩|⟨e,a,b⟩|⟨e,a,b⟩;rw [Cx.ZV (by rw[e];decide),e,qj (by decide)];exact zsk h u a;rw [Cx.ZV (by rw[e];decide),e,qj (by decide)];exact zsh h u a b;rw [Cx.JI e,e,jm];by_cases c:R<u;exact zsm h u a b c;exact zsn h u a b (by omega)
end Go.Proofs.YtdokgalidhmbbaaGreatDoor.Cy
namespace Go.Proofs.YtdokgalidhmbbaaGreatDoor.Cx
open Go.RowKit Go.Lib Go.Sort
theorem jQ(n:Int)(w:World):Cs 66 #[.int .i64 n] w (.bool (zX n)):=(U.jF n w).mono λe E h=>⟨h.1,h.2⟩
variable {w:World}{B z:Nat}{N O S:Int}
theorem zqn{R:Int}(h:Obj w B z ⟨N,O,R,S⟩)(n:Int)(i:zX n=false):Calls Tryz.prog 62 #[.pointer (some ⟨z,0,none⟩),.int .i64 n] w λe E=>e=.returned (.int .i64 1)/\Turned w E B z ⟨N,O,R,S⟩:=by
 have c:=h.four.c0;have d:=h.four.c1;have f:=h.four.c2;have g:=h.four.c3;have r:=h.four.f1;have s:=h.four.f2;have t:=h.four.f3;obtain⟨p,q,j,k,a,b,l,m⟩:=h.inv;simp only at c d f g p q j k a b l m;go_enter Tryz.func62,Tryz.ntmps62
 go_wp2_with (go_at_call 66;refine(jQ n _).mono ?_;rintro e u ⟨rfl,rfl⟩;rw[i]);go_ret;exact⟨rfl,Turned.same h⟩
theorem zqm{R:Int}(h:Obj w B z ⟨N,O,R,S⟩)(n:Int)(i:zX n=true)(u:O<n):Calls Tryz.prog 62 #[.pointer (some ⟨z,0,none⟩),.int .i64 n] w λe E=>e=.returned (.int .i64 8)/\Turned w E B z ⟨N,O,R,S⟩:=by
 have c:=h.four.c0;have d:=h.four.c1;have f:=h.four.c2;have g:=h.four.c3;have r:=h.four.f1;have s:=h.four.f2;have t:=h.four.f3;obtain⟨p,q,j,k,a,b,l,m⟩:=h.inv;simp only at c d f g p q j k a b l m;go_enter Tryz.func62,Tryz.ntmps62
 go_wp2_with (go_at_call 66;refine(jQ n _).mono ?_;rintro e v ⟨rfl,rfl⟩;rw[i]);go_ret;exact⟨rfl,Turned.same h⟩
theorem zqo{R:Int}(h:Obj w B z ⟨N,O,R,S⟩)(n:Int)(k:zX n=true)(i:n<=O)(j:R<n):Calls Tryz.prog 62 #[.pointer (some ⟨z,0,none⟩),.int .i64 n] w λe E=>e=.returned (.int .i64 0)/\Turned w E B z (zq ⟨N,O,R,S⟩ n):=by
 have c:=h.four.c0;have d:=h.four.c1;have f:=h.four.c2;have g:=h.four.c3;have t:=h.four.f1;have u:=h.four.f2;have v:=h.four.f3;obtain⟨r,s,l,m,a,b,p,q⟩:=h.inv;simp only at c d f g r s l m a b p q;go_enter Tryz.func62,Tryz.ntmps62
 go_wp2_with (go_at_call 66;refine(jQ n _).mono ?_;rintro e x ⟨rfl,rfl⟩;rw[k]);go_ret;exact⟨rfl,Turned.took h i (if_pos j).symm⟩
theorem zqp{R:Int}(h:Obj w B z ⟨N,O,R,S⟩)(n:Int)(j:zX n=true)(v:n<=O)(i:n<=R):Calls Tryz.prog 62 #[.pointer (some ⟨z,0,none⟩),.int .i64 n] w λe E=>e=.returned (.int .i64 0)/\Turned w E B z (zq ⟨N,O,R,S⟩ n):=by
 have c:=h.four.c0;have d:=h.four.c1;have f:=h.four.c2;have g:=h.four.c3;have s:=h.four.f1;have t:=h.four.f2;have u:=h.four.f3;obtain⟨q,r,k,l,a,b,m,p⟩:=h.inv;simp only at c d f g q r k l a b m p;go_enter Tryz.func62,Tryz.ntmps62
 go_wp2_with (go_at_call 66;refine(jQ n _).mono ?_;rintro e x ⟨rfl,rfl⟩;rw[j]);go_ret;exact⟨rfl,Turned.kept h i⟩
theorem Va{s:St}(h:Obj w B z s)(u:Int):Calls Tryz.prog 62 #[.pointer (some ⟨z,0,none⟩),.int .i64 u] w λe E=>e=.returned (.int .i64 (qh s u))/\Turned w E B z (zm s u):=by
 obtain⟨N,O,R,S⟩:=s;rcases Vq ⟨N,O,R,S⟩ u with⟨e,a⟩|⟨e,a,b⟩|⟨e,a,b⟩;rw [ZV (by rw[e];decide),e];exact zqn h u a;rw [ZV (by rw[e];decide),e];exact zqm h u a b;rw [JI e,e];by_cases c:R<u;exact zqo h u a b c;exact zqp h u a b (by omega)
theorem zpq{R:Int}(h:Obj w B z ⟨N,O,R,S⟩)(n:Int)(t:n<0):Calls Tryz.prog 43 #[.pointer (some ⟨z,0,none⟩),.int .i64 n] w λe E=>e=.returned (.int .i64 1)/\Turned w E B z ⟨N,O,R,S⟩:=by
 have c:=h.four.c0;have d:=h.four.c1;have f:=h.four.c2;have g:=h.four.c3;have q:=h.four.f1;have r:=h.four.f2;have s:=h.four.f3;obtain⟨m,p,i,j,a,b,k,l⟩:=h.inv;simp only at c d f g m p i j a b k l;go_enter Tryz.func43,Tryz.ntmps43
 go_wp2_with fail;go_ret;exact⟨rfl,Turned.same h⟩
theorem zpn{R:Int}(h:Obj w B z ⟨N,O,R,S⟩)(n:Int)(t:0<=n)(u:R-S<n):Calls Tryz.prog 43 #[.pointer (some ⟨z,0,none⟩),.int .i64 n] w λe E=>e=.returned (.int .i64 8)/\Turned w E B z ⟨N,O,R,S⟩:=by
 have c:=h.four.c0;have d:=h.four.c1;have f:=h.four.c2;have g:=h.four.c3;have q:=h.four.f1;have r:=h.four.f2;have s:=h.four.f3;obtain⟨m,p,i,j,a,b,k,l⟩:=h.inv;simp only at c d f g m p i j a b k l;go_enter Tryz.func43,Tryz.ntmps43
 go_wp2_with fail;go_quiet (fail)
 go_wp2_with fail;go_ret;exact⟨rfl,Turned.drewN h _⟩
theorem zpo{R:Int}(h:Obj w B z ⟨N,O,R,S⟩)(n:Int)(u:0<=n)(v:n<=R-S)(x:N/2<S+n-(O-N))(i:zX (S+n+N)=false):Calls Tryz.prog 43 #[.pointer (some ⟨z,0,none⟩),.int .i64 n] w λe E=>e=.returned (.int .i64 4)/\Turned w E B z ⟨N,O,R,S⟩:=by
 have c:=h.four.c0;have d:=h.four.c1;have f:=h.four.c2;have g:=h.four.c3;have r:=h.four.f1;have s:=h.four.f2;have t:=h.four.f3;obtain⟨p,q,j,k,a,b,l,m⟩:=h.inv;simp only at c d f g p q j k a b l m;go_enter Tryz.func43,Tryz.ntmps43
 go_wp2_with fail;go_quiet (fail)
 go_wp2_with fail;go_quiet (fail)
 go_wp2_with fail;go_quiet (fail)
 go_wp2_with (go_at_call 66;refine(jQ (S+n+N) _).mono ?_;rintro e y ⟨rfl,rfl⟩;rw[i]);go_ret;exact⟨rfl,Turned.drewN h _⟩
theorem zpp{R:Int}(h:Obj w B z ⟨N,O,R,S⟩)(n:Int)(k:0<=n)(l:n<=R-S)(a:N/2<S+n-(O-N))(b:zX (S+n+N)=true):Calls Tryz.prog 43 #[.pointer (some ⟨z,0,none⟩),.int .i64 n] w λe E=>e=.returned (.int .i64 0)/\Turned w E B z ⟨N,xN ⟨N,O,R,S⟩ n,R,S+n⟩:=by
 have f:=h.four.c0;have g:=h.four.c1;have i:=h.four.c2;have j:=h.four.c3;have v:=h.four.f1;have x:=h.four.f2;have y:=h.four.f3;obtain⟨t,u,m,p,c,d,q,r⟩:=h.inv;simp only at f g i j t u m p c d q r;go_enter Tryz.func43,Tryz.ntmps43
 go_wp2_with fail;go_quiet (fail)
 go_wp2_with fail;go_quiet (fail)
 go_wp2_with fail;go_quiet (fail)
 go_wp2_with (go_at_call 66;refine(jQ (S+n+N) _).mono ?_;rintro e F ⟨rfl,rfl⟩;rw[b]);go_ret;exact⟨rfl,(Turned.drewN h _).trans (Turned.got (Turned.drewN h _).1 k l (by rw[Ze a];exact b) rfl (Ze (s:=⟨N,O,R,S⟩) a).symm)⟩
theorem zpr{R:Int}(h:Obj w B z ⟨N,O,R,S⟩)(n:Int)(k:0<=n)(l:n<=R-S)(a:S+n-(O-N)<=N/2)(b:zX O=true):Calls Tryz.prog 43 #[.pointer (some ⟨z,0,none⟩),.int .i64 n] w λe E=>e=.returned (.int .i64 0)/\Turned w E B z ⟨N,xN ⟨N,O,R,S⟩ n,R,S+n⟩:=by
 have f:=h.four.c0;have g:=h.four.c1;have i:=h.four.c2;have j:=h.four.c3;have v:=h.four.f1;have x:=h.four.f2;have y:=h.four.f3;obtain⟨t,u,m,p,c,d,q,r⟩:=h.inv;simp only at f g i j t u m p c d q r;go_enter Tryz.func43,Tryz.ntmps43
 go_wp2_with fail;go_quiet (fail)
 go_wp2_with fail;go_quiet (fail)
 go_wp2_with (go_at_call 66;refine(jQ O _).mono ?_;rintro e F ⟨rfl,rfl⟩;rw[b]);go_ret;exact⟨rfl,(Turned.drewN h _).trans (Turned.got (Turned.drewN h _).1 k l (by rw[Zd a];exact b) rfl (Zd (s:=⟨N,O,R,S⟩) a).symm)⟩
theorem zpl{s:St}(h:Obj w B z s)(n:Int):Calls Tryz.prog 43 #[.pointer (some ⟨z,0,none⟩),.int .i64 n] w λe E=>e=.returned (.int .i64 (qx s n))/\Turned w E B z (xM s n):=by
 obtain⟨N,O,R,S⟩:=s;rcases KF ⟨N,O,R,S⟩ n with⟨e,a⟩|⟨e,a,b⟩|⟨e,a,b,h2⟩|⟨e,a,b,h2⟩;rw [yG (by rw[e];decide),e];exact zpq h n a;rw [yG (by rw[e];decide),e];exact zpn h n a b;rw [yG (by rw[e];decide),e];by_cases c:N/2<S+n-(O-N);rw [Ze c]at h2;exact zpo h n a b c h2
 .exfalso
  rw[Zd (by simp only;omega)]at h2
  have h2:¬(0<=O/\O<=1073741823):=of_decide_eq_false h2
  obtain⟨g,i,d,f,_⟩:=h.inv
  simp only at g i d f
  omega
 rw [QT e,e];by_cases c:N/2<S+n-(O-N);rw [Ze c]at h2;exact zpp h n a b c h2;rw [Zd (by simp only;omega)]at h2;exact zpr h n a b (by omega) h2
end Go.Proofs.YtdokgalidhmbbaaGreatDoor.Cx
