/- What the law RunAnswers needs. -/
import Derived.Test.YtdokgalidhmbbaaGreatDoorHR
import Derived.Laws.BytesArg
import Derived.Deep.LoopGhost
import Derived.Deep.DeepCutAuto
import Derived.Deep.RegionLaw
set_option linter.unusedVariables false
set_option linter.unusedSimpArgs false
set_option maxRecDepth 100000
set_option maxHeartbeats 8000000
namespace Go.Proofs.YtdokgalidhmbbaaGreatDoor.Sx
open Go.RowKit Go.Lib Go.Sort
structure St where
 byt:Nat->Int
 cm:Nat->Bool
 tk:Nat
def zP(d:ByteArray)(i:Nat):Int:=((d.data[i]?.getD 0).toNat:Int)
theorem wO(d:ByteArray)(i:Nat):0<=zP d i/\zP d i<=255:=by
 have:=(d.data[i]?.getD 0).toNat_lt;unfold zP;omega
variable {d:ByteArray}
theorem We{i:Nat}(h:i<d.size):((d[i].toNat:Nat):Int)=zP d i:=by
 have a:i<d.data.size:=h;rw[zP,Array.getElem?_eq_getElem a];rfl
def qE:St:=⟨λ_=>0,λ_=>false,0⟩
def jy(n:Int):Bool:=decide (0<=n/\n<=60)
def cl(s:St)(a:Nat)(d:ByteArray)(i:Nat):Bool:=s.cm (a+i) && (s.byt (a+i) !=zP d i)
def xz(s:St)(a:Nat)(d:ByteArray):Bool:=(List.range d.size).any (cl s a d)
variable {s:St}
theorem XD{a:Nat}{i:Nat}(b:i<d.size)(h:cl s a d i=true):xz s a d=true:=
 List.any_eq_true.2 ⟨i,by simpa using b,h⟩
theorem XC{a:Nat}(h:∀i,i<d.size->cl s a d i=false):xz s a d=false:=by
 refine List.any_eq_false.2 λi b=>?_;rw[h i (by simpa using b)];simp
def zq(s:St)(a:Nat)(d:ByteArray)(n:Nat):St:=⟨λj=>if a<=j/\j<a+n then zP d (j-a)else s.byt j,λj=>decide (a<=j/\j<a+n) ||s.cm j,s.tk⟩
theorem WC(s:St)(a:Nat)(d:ByteArray):zq s a d 0=s:=by
 have e:∀j,¬(a<=j/\j<a+0):=λj=>by omega
 cases s;simp only[zq,e,if_false,decide_false,Bool.false_or]
theorem Ql(s:St)(a:Nat)(d:ByteArray)(n:Nat):(zq s a d (n+1)).byt=λj=>if j=a+n then zP d n else(zq s a d n).byt j:=by
 funext j
 simp only[zq];by_cases h:j=a+n;subst h;rw[if_pos (by omega),if_pos rfl];congr 1;omega
 rw [if_neg h];by_cases b:a<=j/\j<a+n;rw [if_pos (by omega),if_pos b];rw [if_neg (by omega),if_neg b]
theorem WB(s:St)(a:Nat)(d:ByteArray)(n:Nat):(zq s a d (n+1)).cm=λj=>if j=a+n then true else(zq s a d n).cm j:=by
 funext j
 simp only[zq];by_cases h:j=a+n;rw [if_pos h];have:a<=j/\j<a+(n+1):=by omega
 simp[this];rw [if_neg h];have:(a<=j/\j<a+(n+1))↔(a<=j/\j<a+n):=by omega
 simp[this]
def xg(s:St)(p:Int)(d:ByteArray):Int:=if jy p=false then 1 else if 60<p+(d.size:Int)then 4 else if xz s p.toNat d=true then 7 else 0
def xY(s:St)(p:Int)(d:ByteArray):St:=if xg s p d=0 then zq s p.toNat d d.size else s
variable {p:Int}
theorem Zm(h:jy p=false):xg s p d=1:=if_pos h
theorem Q6(h:jy p=true)(a:60<p+(d.size:Int)):xg s p d=4:=by simp[xg,h,a]
theorem VK(h:jy p=true)(b:p+(d.size:Int)<=60)(a:xz s p.toNat d=true):xg s p d=7:=by
 have:¬60<p+(d.size:Int):=by omega
 simp[xg,h,this,a]
theorem VL(h:jy p=true)(b:p+(d.size:Int)<=60)(a:xz s p.toNat d=false):xg s p d=0:=by
 have:¬60<p+(d.size:Int):=by omega
 simp[xg,h,this,a]
theorem VM(h:xg s p d=0):xY s p d=zq s p.toNat d d.size:=if_pos h
theorem ZK(h:xg s p d≠0):xY s p d=s:=if_neg h
structure Inv(s:St):Prop where
 t:s.tk<=60
 b:∀i,0<=s.byt i/\s.byt i<=255
theorem Inv.new:Inv qE:=⟨by simp[qE],λi=>by simp[qE]⟩
theorem Inv.up(h:Inv s)(a:Nat)(d:ByteArray)(n:Nat):Inv (zq s a d n):=by
 refine⟨h.t,λi=>?_⟩;simp only[zq];split;exact wO _ _;exact h.b i
theorem Inv.put(h:Inv s)(p:Int)(d:ByteArray):Inv (xY s p d):=by
 unfold xY;split;exact h.up _ _ _;exact h
def run(a:Nat->Bool)(t:Nat):Nat->Nat
 |0=>0
 |k+1=>if a t then 1+run a (t+1) k else 0
theorem JE(a:Nat->Bool):∀(k t n:Nat),(∀i,i<n->a (t+i)=true)->n<k->a (t+n)=false->run a t k=n
 |0,t,n,_,h,_=>by omega
 |k+1,t,0,_,_,h=>by simp[run,show a t=false from h]
 |k+1,t,n+1,b,e,d=>by
  have:=JE a k (t+1) n (λi f=>by have:=b (i+1) (by omega);rwa[show t+(i+1)=t+1+i by omega]at this) (by omega) (by rwa[show t+(n+1)=t+1+n by omega]at d)
  have c:a t=true:=b 0 (by omega)
  simp[run,c,this]
  omega
theorem JD(a:Nat->Bool):∀(k t:Nat),(∀i,i<k->a (t+i)=true)->run a t k=k
 |0,t,_=>rfl
 |k+1,t,h=>by
  have:=JD a k (t+1) (λi c=>by have:=h (i+1) (by omega);rwa[show t+(i+1)=t+1+i by omega]at this)
  have b:a t=true:=h 0 (by omega)
  simp[run,b,this]
  omega
theorem fK(a:Nat->Bool):∀(k t:Nat),run a t k<=k
 |0,t=>Nat.le_refl _
 |k+1,t=>by
  have:=fK a k (t+1)
  simp only[run]
  split<;>omega
theorem Ve(a:Nat->Bool):∀(k t i:Nat),i<run a t k->a (t+i)=true
 |0,t,i,h=>by simp[run]at h
 |k+1,t,i,h=>by
  simp only[run]at h
  split at h
  .rename_i b
   cases i with
   |zero=>exact b
   |succ i=>
    have:=Ve a k (t+1) i (by omega)
    rwa[show t+1+i=t+(i+1) by omega]at this
  .omega
def xP(s:St):Nat:=run s.cm s.tk (60-s.tk)
theorem VY(s:St):xP s<=60-s.tk:=fK _ _ _
def takeN(s:St)(n:Int):Nat:=min n.toNat (xP s)
def xQ(s:St)(n:Int):List Int:=(List.range (takeN s n)).map λi=>s.byt (s.tk+i)
def zm(s:St)(n:Int):St:=⟨s.byt,s.cm,s.tk+takeN s n⟩
theorem ZU(s:St)(n:Int):takeN s n<=60-s.tk:=Nat.le_trans (Nat.min_le_right _ _) (VY s)
theorem Inv.take(h:Inv s)(n:Int):Inv (zm s n):=⟨by have:=ZU s n;have:=h.t;show s.tk+takeN s n<=60;omega,h.b⟩
theorem wrap_small(n:Int)(a: -10000000000<=n)(b:n<=10000000000):IntKind.i64.wrap n=n:=by simp[IntKind.wrap,IntKind.bits,IntKind.signed];omega
theorem jU{k:Nat}(h:k<d.size)(w:World):(Instr.index 9 (.string d) (.int .i64 (k:Int))).run Tryz.prog w=.ok (.int .u8 (zP d k)) w:=by
 rw[run_index_string w 9 d .i64 k (by kernel_rfl),dif_pos (by omega)];simp only[Int.toNat_natCast];rw[We h]
theorem qw{w:World}{a b:Addr}{u v:Value}(h:w.cell? a=some v)(e:a.off≠b.off):(w.setCell b u).cell? a=some v:=by
 rw[World.cell?_setCell_other _ _ _ _ (by intro c;subst c;exact e rfl)];exact h
structure Obj(w:World)(B sb:Nat)(s:St):Prop where
 inv:Inv s
 cb:∀i,i<60->w.cell? ⟨sb,i,none⟩=some (.int .u8 (s.byt i))
 cc:∀i,i<60->w.cell? ⟨sb,60+i,none⟩=some (.bool (s.cm i))
 ct:w.cell? ⟨sb,120,none⟩=some (.int .i64 s.tk)
 fz:∀i,i<121->w.frozen? ⟨sb,i,none⟩=false
 hs:B<=sb
section
variable {w w' : World} {B sb : Nat} {s : St}
theorem Obj.lt(h:Obj w B sb s):sb<w.heap.size:=World.block_lt_of_cell? w _ h.ct
theorem Obj.le(h:Obj w B sb s):B<=w.heap.size:=by have:=h.hs;have:=h.lt;omega
theorem Obj.off{K:Nat->Prop}(h:Obj w B sb s)(c:Off K w w')(b:¬K sb):Obj w' B sb s:=
 ⟨h.inv,λi a=>c.cell (h.cb i a) b,λi a=>c.cell (h.cc i a) b,c.cell h.ct b,λi a=>(c.frozen (p:=⟨sb,i,none⟩) h.lt b).trans (h.fz i a),h.hs⟩
theorem Obj.below(h:Obj w B sb s)(a:Below w.heap.size w w'):Obj w' B sb s:=h.off (Off.of_below (K:=λ_=>False) a) id
theorem Obj.take(h:Obj w B sb s){n:Int}{z:Int}(b:z=((s.tk+takeN s n:Nat):Int)):Obj (w.setCell ⟨sb,120,none⟩ (.int .i64 z)) B sb (zm s n):=by
 subst b;exact⟨h.inv.take n,λi a=>qw (h.cb i a) (by show i≠120;omega),λi a=>qw (h.cc i a) (by show 60+i≠120;omega),World.cell?_setCell_same _ _ _ h.ct,λi a=>by simpa using h.fz i a,h.hs⟩
end
def zc:Array Value:=Array.replicate 60 (.int .u8 0)++Array.replicate 60 (.bool false)++#[.int .i64 0]
theorem zc_b(i:Nat)(h:i<60):zc[i]? =some (.int .u8 0):=by simp[zc,Array.getElem?_append,h]
theorem zc_c(i:Nat)(h:i<60):zc[60+i]? =some (.bool false):=by
 have a:¬60+i<60:=by omega
 have b:60+i<120:=by omega
 simp[zc,Array.getElem?_append,Array.getElem?_push,h,a,b];omega
theorem zc_t:zc[120]? =some (.int .i64 0):=by simp[zc,Array.getElem?_append,Array.getElem_push]
theorem Obj.new(w:World):Obj (w.alloc (.cells zc 100)) w.heap.size w.heap.size qE:=by
 refine⟨Inv.new,λi a=>?_,λi a=>?_,?_,λi a=>?_,Nat.le_refl _⟩;simp [zc_b i a,qE];simp [zc_c i a,qE];simp [zc_t,qE];.simp
theorem zve(w:World):(zeroValue 100).run Tryz.prog w=.ok (.agg zc) w:=by kernel_rfl
def Turned(w E:World)(B z:Nat)(s:St):Prop:=Obj E B z s/\Off (λk=>k=z) w E
variable {w:World}{B z:Nat}{s:St}
theorem Turned.same(h:Obj w B z s):Turned w w B z s:=⟨h,Off.refl _ _⟩
theorem wD(n:Int)(w:World):Cs 212 #[.int .i64 n] w (.bool (jy n)):=by
 by_cases a:0<=n
 .by_cases b:n<=60
  .go_enter Tryz.func212,Tryz.ntmps212
   go_wp2;go_ret;exact⟨by simp[jy]<;>omega,rfl⟩
  go_enter Tryz.func212,Tryz.ntmps212
  go_wp2;go_ret;exact⟨by simp[jy]<;>omega,rfl⟩
 go_enter Tryz.func212,Tryz.ntmps212
 go_wp2;go_ret;exact⟨by simp[jy]<;>omega,rfl⟩
theorem Ki(w:World):Calls Tryz.prog 68 #[] w λe E=>e=.returned (.pointer (some ⟨w.heap.size,0,none⟩))/\Obj E w.heap.size w.heap.size qE/\Below w.heap.size w E:=by
 have hO:=Obj.new w;have a:=zve;generalize zc=z at hO a;go_enter Tryz.func68,Tryz.ntmps68
 go_wp2_with fail;go_ret;exact⟨rfl,hO,(Below.refl _ _).alloc (Nat.le_refl _) _⟩
theorem ZB(w:World)(p:Int)(d:ByteArray):(w.alloc (.cells #[.int .i64 p,.string d] 146)).cell? ⟨w.heap.size,0,none⟩=some (.int .i64 p)/\(w.alloc (.cells #[.int .i64 p,.string d] 146)).cell? ⟨w.heap.size,1,none⟩=some (.string d):=by simp
theorem y5{b j i:Nat}{u v:Value}(h:w.cell? ⟨b,i,none⟩=some v)(e:b≠z):(w.setCell ⟨z,j,none⟩ u).cell? ⟨b,i,none⟩=some v:=by
 rw[World.cell?_setCell_other _ _ _ _ (by intro e';injection e' with e' _ _;exact e (by first|exact e'|exact e'.symm))];exact h
theorem zo8(h:Obj w B z s):Calls Tryz.prog 191 #[.pointer (some ⟨z,0,none⟩)] w λe E=>e=.returned (.int .i64 (xP s:Int))/\∃m,E=w.drewN m:=by
 have G:=h.inv.t;have c0:=h.ct;have HS:Hid (∀n,n<60-s.tk->(∀i,i<n->s.cm (s.tk+i)=true)->s.cm (s.tk+n)=false->(xP s:Int)=n):=by
  show∀n,_->_->_->_;intro n p Q U;rw[xP,JE _ _ _ n Q p U]
 have HA:Hid ((∀i,i<60-s.tk->s.cm (s.tk+i)=true)->(xP s:Int)=60-(s.tk:Int)):=by
  show _->_;intro p;rw[xP,JD _ _ _ p];omega
 obtain⟨r,t⟩:∃r:Int,(xP s:Int)=r:=⟨_,rfl⟩;rw[t];rw[t]at HS HA;clear t;have HC:Hid (∀i,i<60->w.cell? ⟨z,60+i,none⟩=some (.bool (s.cm i))):=h.cc;have D:=wrap_small (60-(s.tk:Int)) (by omega) (by omega);clear h;generalize V:s.tk=T at*;have F:Hid (∀i,s.cm i=s.cm i):=λ_=>rfl;generalize s.cm=b at HS HA HC;clear F V;go_enter Tryz.func191,Tryz.ntmps191
 go_wp2_with fail;go_loopg [11] (60-T) (λgk A wr=>∃k m:Nat,gk+k=60-T/\A=.int .i64 k/\Hid (∀i,i<k->b (T+i)=true)/\Hid (wr=w.drewN m))
 case atStart=>exact⟨0,0,rfl,rfl,(show∀i,i<0->b (T+i)=true from λi u=>by omega),rfl⟩
 case round=>
  obtain⟨k,m,v,rfl,c,j⟩:=hrel;have d:Hid (gk+k=60-T):=v;clear v;have C:wr.cell? ⟨z,120,none⟩=some (.int .i64 (T:Int)):=by rw[j.out];exact c0
  have l:Hid (∀q,∃m,wr.drewN q=w.drewN m):=by show∀q,_;intro q;rw[j.out,World.drewN_drewN];exact⟨_,rfl⟩
  by_cases g:(k:Int)<60-(T:Int)
  .have x:wr.cell? ⟨z,60+(T+k),none⟩=some (.bool (b (T+k))):=by rw[j.out];exact HC.out (T+k) (by omega)
   have H:=wrap_small ((T:Int)+(k:Int)) (by omega) (by omega)
   cases a:b (T+k)with
   |true=>
    rw[a]at x;have y:Hid (∀i,i<k+1->b (T+i)=true):=by
     show∀i,_->_;intro i u;by_cases e:i=k;rw [e];exact a;exact c.out i (by omega)
    clear a c;go_wp2_with fail;go_quiet (fail)
    go_wp2_with fail;go_roundg (60-T-(k+1))
    case measure=>have:=d.out;omega
    case rel=>
     obtain⟨o,P⟩:=l.out _;exact⟨k+1,o,by have:=d.out;omega,by go_num,y,P⟩
   |false=>
    rw[a]at x;have f:Hid (r=(k:Int)):=HS.out k (by omega) c.out a;clear a c;go_wp2_with fail;go_quiet (fail)
    go_wp2_with fail;go_ret;exact⟨by rw[f.out];rfl,l.out _⟩
  have f:Hid (r=60-(T:Int)):=HA.out λi u=>c.out i (by have:=d.out;omega);go_wp2_with fail;go_ret;exact⟨by rw[f.out];rfl,l.out 0⟩
def yn(T:Nat):Nat:=if 60=T then 0 else T
theorem Vf(w:World)(z T:Nat)(k:Int)(d:0<=k)(f:(T:Int)+k<=60):(Instr.sliceAt 96 (.pointer (some ⟨z,0,none⟩)) (some (.int .i64 (T:Int))) (some (.int .i64 ((T:Int)+k))) none).run Tryz.prog w=.ok (.slice (some ⟨z,yn T,none⟩) k.toNat (60-T)) w:=by
 have a:Tryz.prog.arrayLen 96=60:=by kernel_rfl
 have c:(sizeOf (Tryz.prog.elem 96)).run Tryz.prog w=.ok 1 w:=by kernel_rfl
 rw[run_sliceAt_array_lh w 96 ⟨z,0,none⟩ (by kernel_rfl) .i64 .i64 (T:Int) ((T:Int)+k) (by omega) (by omega) (by rw[a];omega),c];simp only[Result.andThen,slicedAt,a,yn,Addr.add_lit];by_cases e:60=T;subst e;simp;omega;have b:¬60=(T:Int).toNat:=by omega
 rw[if_neg b,if_neg e];simp;omega
theorem Qf(h:Obj w B z s)(n:Int)(a:n<0):Calls Tryz.prog 163 #[.pointer (some ⟨z,0,none⟩),.int .i64 n] w λe E=>e=.returned (.tuple #[.string ByteArray.empty,.iface 133 (.int .i64 1)])/\Turned w E B z s:=by
 go_enter Tryz.func163,Tryz.ntmps163
 go_wp2_with fail;go_ret2
 exact⟨rfl,Turned.same h⟩
theorem vK{b:Nat}(h:Obj w B b s)(n:Int)(P:0<=n):Calls Tryz.prog 163 #[.pointer (some ⟨b,0,none⟩),.int .i64 n] w λe E=>e=.returned (.tuple #[.string (strOfNums (xQ s n)),.nilIface])/\Turned w E B b (zm s n):=by
 have U:=h.inv.t;have ct:=h.ct;have l:=h.fz 120 (by omega);have F:=VY s;obtain⟨z,d,c⟩:∃z:Int,(if(xP s:Int)<n then(xP s:Int)else n)=z/\takeN s n=z.toNat:=by
  refine⟨_,rfl,?_⟩;unfold takeN;split<;>omega
 have V:0<=z:=by split at d<;>omega
 have A:z<=60-(s.tk:Int):=by split at d<;>omega
 have HT:Hid (∀q,Turned w ((w.setCell ⟨b,120,none⟩ (.int .i64 ((s.tk:Int)+z))).drewN q) B b (zm s n)):=by
  show∀q,_;intro q;have o:=h.take (n:=n) (z:=(s.tk:Int)+z) (by rw[c];omega);exact⟨o.below (below_drewN (Below.refl _ _) q),((Off.refl _ _).setCell (K:=λk=>k=b) (a:=⟨b,120,none⟩) rfl _).trans (Off.of_below (below_drewN (Below.refl _ _) q))⟩
 have f:∀q,(convert 37 9 (.slice (some ⟨b,yn s.tk,none⟩) z.toNat (60-s.tk))).run Tryz.prog ((w.setCell ⟨b,120,none⟩ (.int .i64 ((s.tk:Int)+z))).drewN q)=.ok (.string (strOfNums (xQ s n))) ((w.setCell ⟨b,120,none⟩ (.int .i64 ((s.tk:Int)+z))).drewN q):=λq=>
  run_convert_bytes_arg _ 37 5 Tryz.underlying37 Tryz.underlying5 b (yn s.tk) _ _ (xQ s n) (by simp[xQ,c]) (λi t=>by
   have u:i<takeN s n:=by rw[c];exact t
   have y:=ZU s n
   have p:yn s.tk=s.tk:=by unfold yn;rw[if_neg (by omega)]
   rw[p,World.cell?_drewN,qw (h.cb (s.tk+i) (by omega)) (by show s.tk+i≠120;omega)]
   simp[xQ,u]) 9 Tryz.underlying9
 have Q:∀w,(Instr.sliceAt 96 (.pointer (some ⟨b,0,none⟩)) (some (.int .i64 (s.tk:Int))) (some (.int .i64 ((s.tk:Int)+z))) none).run Tryz.prog w=.ok (.slice (some ⟨b,yn s.tk,none⟩) z.toNat (60-s.tk)) w:=λw=>Vf w b s.tk (z) (by omega) (by omega);have hq:=λq=>zo8 (h.below (below_drewN (Below.refl w.heap.size w) q));have g:(w.setCell ⟨b,120,none⟩ (.int .i64 ((s.tk:Int)+z))).cell? ⟨b,120,none⟩=some (.int .i64 ((s.tk:Int)+z)):=World.cell?_setCell_same _ _ _ ct
 have HZ:Hid (IntKind.i64.wrap ((s.tk:Int)+if(xP s:Int)<n then(xP s:Int)else n)=(s.tk:Int)+z):=by show _=_;rw[d];exact wrap_small _ (by omega) (by omega)
 have HCV:=zC f;have CT2:=zC g;clear h c f g d;generalize xQ s n=L at HCV |-;generalize xP s=r at*;generalize s.tk=T at*;go_enter Tryz.func163,Tryz.ntmps163
 go_wp2_with fail;go_cut [] (λv=>Hid (∃q,v=(w.setCell ⟨b,120,none⟩ (.int .i64 ((T:Int)+z))).drewN q))
 case first=>
  go_region_with (go_at_call 191;refine(hq _).mono ?_;rintro e C ⟨rfl,m,rfl⟩)
  all_goals (try go_wp2_with fail)
  all_goals go_meet
  all_goals exact(show∃q,_ from⟨1+m,by have e:=HZ.out;split at e<;>first|(rw[e];rfl)|(exfalso;omega)⟩)
 case rest=>
  have x:wc.cell? ⟨b,120,none⟩=some (.int .i64 ((T:Int)+z)):=by obtain⟨q,e⟩:=hcut.out;rw[e];exact CT2.out
  have f:(convert 37 9 (.slice (some ⟨b,yn T,none⟩) z.toNat (60-T))).run Tryz.prog wc.drew=.ok (.string (strOfNums L)) wc.drew:=by
   rw[World.drew_is_drewN];obtain⟨q,e⟩:=hcut.out;rw[e,World.drewN_drewN];exact HCV.out _
  have j:Hid (Turned w wc.drew B b (zm s n)):=by
   show Turned _ _ _ _ _;rw[World.drew_is_drewN];obtain⟨q,e⟩:=hcut.out;rw[e,World.drewN_drewN];exact HT.out _
  clear hcut HCV HT HZ CT2 hq ct l;go_wp2_with fail;go_region
  all_goals go_wp2_with fail
  all_goals go_ret2
  all_goals exact⟨rfl,j.out⟩
end Go.Proofs.YtdokgalidhmbbaaGreatDoor.Sx
namespace Go.Proofs.YtdokgalidhmbbaaGreatDoor.Sy
open Go.RowKit Go.Lib Go.Sort
open Sx (St Inv zP wO We jy cl xz XD XC zq WC Ql WB xg xY Zm Q6 VK VL VM ZK xP JE JD wrap_small jU qw y5 ZB)
structure Obj(w:World)(sb:Nat)(s:St):Prop where
 inv:Inv s
 cb:∀i,i<60->w.cell? ⟨sb,125+i,none⟩=some (.int .u8 (s.byt i))
 cc:∀i,i<60->w.cell? ⟨sb,185+i,none⟩=some (.bool (s.cm i))
 ct:w.cell? ⟨sb,245,none⟩=some (.int .i64 s.tk)
 fz1:∀i,i<60->w.frozen? ⟨sb,125+i,none⟩=false
 fz2:∀i,i<60->w.frozen? ⟨sb,185+i,none⟩=false
structure OffS(sb:Nat)(w w':World):Prop where
 off:Off (λk=>k=sb) w w'
 rest:∀i,i<125\/245<=i->w'.cell? ⟨sb,i,none⟩=w.cell? ⟨sb,i,none⟩
 fz:∀i,w'.frozen? ⟨sb,i,none⟩=w.frozen? ⟨sb,i,none⟩
theorem OffS.refl(z:Nat)(w:World):OffS z w w:=⟨Off.refl _ _,λ_ _=>rfl,λ_=>rfl⟩
variable {z:Nat}
theorem OffS.trans{a b c:World}(h:OffS z a b)(k:OffS z b c):OffS z a c:=⟨h.off.trans k.off,λi d=>(k.rest i d).trans (h.rest i d),λi=>(k.fz i).trans (h.fz i)⟩
theorem OffS.of_below{w E:World}(a:z<w.heap.size)(h:Below w.heap.size w E):OffS z w E:=
 ⟨Off.of_below h,λi _=>h.cell (p:=⟨z,i,none⟩) a,λi=>World.frozen?_of_block (h.block z a)⟩
theorem OffS.up'{w E:World}(h:OffS z w E){i j:Nat}(c:125<=i)(d:i<245)(f:125<=j)(g:j<245)(u v:Value):OffS z w ((E.setCell ⟨z,i,none⟩ u).drew.setCell ⟨z,j,none⟩ v).drew:=by
 refine h.trans ⟨(((Off.refl (λk=>k=z) E).setCell (a:=⟨z,i,none⟩) rfl u).setCell (a:=⟨z,j,none⟩) rfl v).trans (Off.of_below ⟨rfl,rfl,rfl,Nat.le_refl _,λ_ _=>rfl⟩),λk b=>?_,λk=>?_⟩;show ((E.setCell ⟨z,i,none⟩ u).setCell ⟨z,j,none⟩ v).cell? _=_;rw[World.cell?_setCell_other _ _ _ _ (λe=>by injection e;omega),World.cell?_setCell_other _ _ _ _ (λe=>by injection e;omega)];show ((E.setCell ⟨z,i,none⟩ u).setCell ⟨z,j,none⟩ v).frozen? _=_;simp
section
variable {w w' : World} {sb : Nat} {s : St}
theorem Obj.offS(h:Obj w sb s)(c:sb<w.heap.size)(b:Below w.heap.size w w'):Obj w' sb s:=by
 have f:∀i,w'.frozen? ⟨sb,i,none⟩=w.frozen? ⟨sb,i,none⟩:=λi=>World.frozen?_of_block (b.block sb c);exact⟨h.inv,λi a=>(b.cell (p:=⟨sb,125+i,none⟩) c).trans (h.cb i a),λi a=>(b.cell (p:=⟨sb,185+i,none⟩) c).trans (h.cc i a),(b.cell (p:=⟨sb,245,none⟩) c).trans h.ct,λi a=>(f _).trans (h.fz1 i a),λi a=>(f _).trans (h.fz2 i a)⟩
theorem Obj.below(h:Obj w sb s)(b:sb<w.heap.size)(a:Below w.heap.size w w'):Obj w' sb s:=h.offS b a
theorem Obj.up{a n:Nat}{d:ByteArray}(h:Obj w sb (zq s a d n))(b:a+n<60):
  Obj ((w.setCell ⟨sb,125+(a+n),none⟩ (.int .u8 (zP d n))).setCell ⟨sb,185+(a+n),none⟩ (.bool true)) sb (zq s a d (n+1)):=by
 refine⟨?_,λi hi=>?_,λi hi=>?_,?_,λi hi=>by simpa using h.fz1 i hi,λi hi=>by simpa using h.fz2 i hi⟩;refine ⟨h.inv.t,λi=>?_⟩;rw[Ql];by_cases e:i=a+n;simp only[e,if_true];exact wO _ _;simp only[e,if_false];exact h.inv.b i;rw [Ql];refine qw ?_ (by show 125+i≠185+(a+n);omega);by_cases e:i=a+n;subst e;simp only[if_true];exact World.cell?_setCell_same _ _ _ (h.cb _ hi);simp only[e,if_false];exact qw (h.cb i hi) (by show 125+i≠125+(a+n);omega)
 rw [WB];by_cases e:i=a+n;subst e;simp only[if_true];exact World.cell?_setCell_same _ _ _ (qw (h.cc _ hi) (by show 185+(a+n)≠125+(a+n);omega));simp only[e,if_false];exact qw (qw (h.cc i hi) (by show 185+i≠125+(a+n);omega)) (by show 185+i≠185+(a+n);omega);exact qw (qw h.ct (by show 245≠125+(a+n);omega)) (by show 245≠185+(a+n);omega)
theorem Obj.up'{a n:Nat}{d:ByteArray}(h:Obj w sb (zq s a d n))(j:a+n<60):
  Obj ((w.setCell ⟨sb,125+(a+n),none⟩ (.int .u8 (zP d n))).drew.setCell ⟨sb,185+(a+n),none⟩ (.bool true)).drew sb (zq s a d (n+1)):=by
 obtain⟨b,c,e,f,g,i⟩:=h.up j;exact⟨b,c,e,f,g,i⟩
end
def Turned(w E:World)(z:Nat)(s:St):Prop:=Obj E z s/\OffS z w E
variable {w:World}{z:Nat}{s:St}
theorem Turned.below{E:World}(h:Obj w z s)(b:z<w.heap.size)(a:Below w.heap.size w E):Turned w E z s:=⟨h.below b a,OffS.of_below b a⟩
theorem Wv{m:Nat}(h:Obj w m s)(u:m<w.heap.size)(a:Nat)(d:ByteArray)(V:a+d.size<=60):Cl 213 #[.pointer (some ⟨m,125,none⟩),.agg #[.int .i64 a,.string d]] w (.bool (xz s a d)):=by
 have r:Below w.heap.size w (w.alloc (.cells #[.int .i64 a,.string d] 146)):=(Below.refl _ _).alloc (Nat.le_refl _) _;have HO:Hid (Obj (w.alloc (.cells #[.int .i64 a,.string d] 146)) m s):=h.below u r;have HB:=zC r;have HQ:Hid (w.heap.size<(w.alloc (.cells #[.int .i64 a,.string d] 146)).heap.size):=by show _<_;simp
 obtain⟨q0,q1⟩:=ZB w a d;have HL:Hid (m<(w.alloc (.cells #[.int .i64 a,.string d] 146)).heap.size):=Nat.lt_of_lt_of_le u r.size;clear h r u;go_enter Tryz.func213,Tryz.ntmps213
 go_wp2_with fail;generalize w.alloc (.cells #[.int .i64 a,.string d] 146)=W at HO HB HQ HL q0 q1 |-;go_loopg [9] d.size (λgk F P=>∃k:Nat,gk+k=d.size/\F=.int .i64 k/\Hid (∀i,i<k->cl s a d i=false)/\Below W.heap.size W P)
 case atStart=>exact⟨0,rfl,rfl,(show∀i,i<0->cl s a d i=false from λi v=>by omega),Below.refl _ _⟩
 case round=>
  obtain⟨k,x,rfl,t,f⟩:=hrel;have n:Hid (gk+k=d.size):=x;clear x;have o:=(f.cell (p:=⟨w.heap.size,0,none⟩) HQ.out).trans q0;have A:=(f.cell (p:=⟨w.heap.size,1,none⟩) HQ.out).trans q1;by_cases g:(k:Int)<(d.size:Int)
  .have Q:=(HO.out.below HL.out f).cb (a+k) (by omega)
   have U:=(HO.out.below HL.out f).cc (a+k) (by omega)
   have B:=λw=>jU (d:=d) (k:=k) (by omega) w
   have C:=wrap_small ((a:Int)+(k:Int)) (by omega) (by omega)
   have l:Hid (cl s a d k=false->∀i,i<k+1->cl s a d i=false):=by
    show _->_;intro b i v;by_cases e:i=k;rw [e];exact b;exact t.out i (by omega)
   have q:Hid (cl s a d k=true->xz s a d=true):=λb=>XD (by omega) b
   have HC:Hid (cl s a d k=(s.cm (a+k) && (s.byt (a+k) !=zP d k))):=rfl
   clear t
   generalize s.cm (a+k)=c at U HC
   generalize s.byt (a+k)=y at Q HC
   generalize zP d k=z at B HC
   cases c with
   |false=>
    have b:cl s a d k=false:=by rw[HC.out];rfl
    have j:Hid (∀i,i<k+1->cl s a d i=false):=l.out b;clear l q HC b;go_wp2_with fail;go_quiet (fail)
    go_wp2_with fail;go_roundg (d.size-(k+1))
    case measure=>have:=n.out;omega
    case rel=>exact⟨k+1,by have:=n.out;omega,by go_num,j,below_drewN f _⟩
   |true=>
    by_cases e:y=z
    .subst e;have b:cl s a d k=false:=by rw[HC.out];simp
     have j:Hid (∀i,i<k+1->cl s a d i=false):=l.out b;clear l q HC b;go_wp2_with fail;go_quiet (fail)
     go_wp2_with fail;go_roundg (d.size-(k+1))
     case measure=>have:=n.out;omega
     case rel=>exact⟨k+1,by have:=n.out;omega,by go_num,j,below_drewN f _⟩
    have b:cl s a d k=true:=by rw[HC.out];simp[e]
    have j:Hid (xz s a d=true):=q.out b;clear l q HC b;go_wp2_with fail;go_quiet (fail)
    go_wp2_with fail;go_ret;exact⟨by rw[j.out];rfl,HB.out.trans ((below_drewN f _).mono (Nat.le_of_lt HQ.out))⟩
  have j:Hid (xz s a d=false):=XC λi v=>t.out i (by omega);go_wp2_with fail;go_ret;exact⟨by rw[j.out];rfl,HB.out.trans (f.mono (Nat.le_of_lt HQ.out))⟩
theorem zn2(h:Obj w z s)(b:z<w.heap.size)(p:Int)(d:ByteArray)(c:jy p=false):Calls Tryz.prog 186 #[.pointer (some ⟨z,125,none⟩),.agg #[.int .i64 p,.string d]] w λe E=>e=.returned (.iface 133 (.int .i64 1))/\Turned w E z s:=by
 have a:Below w.heap.size w (w.alloc (.cells #[.int .i64 p,.string d] 146)):=(Below.refl _ _).alloc (Nat.le_refl _) _;obtain⟨f,g⟩:=ZB w p d;go_enter Tryz.func186,Tryz.ntmps186
 go_wp2_with (go_at_call 212;refine(Sx.wD p _).mono ?_;rintro e i ⟨rfl,rfl⟩;rw[c]);go_ret;exact⟨rfl,Turned.below h b a⟩
theorem znz(h:Obj w z s)(c:z<w.heap.size)(p:Int)(d:ByteArray)(a:jy p=true)(f:60<p+(d.size:Int))(i:d.size<=140737488351232):Calls Tryz.prog 186 #[.pointer (some ⟨z,125,none⟩),.agg #[.int .i64 p,.string d]] w λe E=>e=.returned (.iface 133 (.int .i64 4))/\Turned w E z s:=by
 have b:Below w.heap.size w (w.alloc (.cells #[.int .i64 p,.string d] 146)):=(Below.refl _ _).alloc (Nat.le_refl _) _;obtain⟨l,m⟩:=ZB w p d;obtain⟨j,k⟩:0<=p/\p<=60:=of_decide_eq_true a;have g:60-p<(d.size:Int):=by omega
 go_enter Tryz.func186,Tryz.ntmps186
 go_wp2_with (go_at_call 212;refine(Sx.wD p _).mono ?_;rintro e n ⟨rfl,rfl⟩;rw[a]);go_ret;exact⟨rfl,Turned.below h c b⟩
theorem zny(h:Obj w z s)(f:z<w.heap.size)(a:Nat)(d:ByteArray)(l:a+d.size<=60)(k:xz s a d=true):Calls Tryz.prog 186 #[.pointer (some ⟨z,125,none⟩),.agg #[.int .i64 (a:Int),.string d]] w λe E=>e=.returned (.iface 133 (.int .i64 7))/\Turned w E z s:=by
 have b:Below w.heap.size w (w.alloc (.cells #[.int .i64 (a:Int),.string d] 146)):=(Below.refl _ _).alloc (Nat.le_refl _) _;obtain⟨g,i⟩:=ZB w (a:Int) d;have r:(a:Int)<=60:=by omega
 have m:jy (a:Int)=true:=decide_eq_true ⟨by omega,by omega⟩;have q:(d.size:Int)<=60-(a:Int):=by omega
 go_enter Tryz.func186,Tryz.ntmps186
 go_wp2_with (go_at_call 212;refine(Sx.wD (a:Int) _).mono ?_;rintro e v ⟨rfl,rfl⟩;rw[m]);refine(Wv (h.below f b) (Nat.lt_of_lt_of_le f b.size) a d l).mono ?_;rintro e n ⟨rfl,c⟩;have j:Hid (Below w.heap.size w n):=b.trans (c.mono b.size);have t:=(c.cell (p:=⟨w.heap.size,0,none⟩) (by simp)).trans g;have u:=(c.cell (p:=⟨w.heap.size,1,none⟩) (by simp)).trans i;rw[k];clear b c g i;go_wp2_with fail;go_ret
 exact⟨rfl,Turned.below h f j.out⟩
theorem Xq(h:Obj w z s)(n:z<w.heap.size)(a:Nat)(d:ByteArray)(H:a+d.size<=60)(P:xz s a d=false):Calls Tryz.prog 186 #[.pointer (some ⟨z,125,none⟩),.agg #[.int .i64 (a:Int),.string d]] w λe E=>e=.returned .nilIface/\Turned w E z (zq s a d d.size):=by
 have l:Below w.heap.size w (w.alloc (.cells #[.int .i64 (a:Int),.string d] 146)):=(Below.refl _ _).alloc (Nat.le_refl _) _;obtain⟨U,V⟩:=ZB w (a:Int) d;have t:(a:Int)<=60:=by omega
 have J:jy (a:Int)=true:=decide_eq_true ⟨by omega,by omega⟩;have T:(d.size:Int)<=60-(a:Int):=by omega
 go_enter Tryz.func186,Tryz.ntmps186
 go_wp2_with (go_at_call 212;refine(Sx.wD (a:Int) _).mono ?_;rintro e X ⟨rfl,rfl⟩;rw[J]);refine(Wv (h.below n l) (Nat.lt_of_lt_of_le n l.size) a d H).mono ?_;rintro e c ⟨rfl,m⟩;have x:Hid (Below w.heap.size w c):=l.trans (m.mono l.size);have o:=(m.cell (p:=⟨w.heap.size,0,none⟩) (by simp)).trans U;have M:=(m.cell (p:=⟨w.heap.size,1,none⟩) (by simp)).trans V;rw[P];clear l m U V;have C:Hid (Obj c z (zq s a d 0)):=by show Obj _ _ _;rw[WC];exact h.below n x.out
 have r:Hid (w.heap.size≠z/\w.heap.size<c.heap.size):=⟨by omega,World.block_lt_of_cell? c _ o⟩;clear h P;go_wp2_with fail;go_loopg [26] d.size (λgk N wr=>∃k:Nat,gk+k=d.size/\N=.int .i64 k/\Obj wr z (zq s a d k)/\OffS z c wr)
 case atStart=>exact⟨0,rfl,rfl,C.out,OffS.refl _ _⟩
 case round=>
  obtain⟨k,Q,rfl,hO,f⟩:=hrel;have q:Hid (gk+k=d.size):=Q;clear Q;have t:=f.off.cell (p:=⟨w.heap.size,0,none⟩) o r.out.1;have K:=f.off.cell (p:=⟨w.heap.size,1,none⟩) M r.out.1;by_cases g:(k:Int)<(d.size:Int)
  .have O:=hO.cb (a+k) (by omega);have A:=hO.cc (a+k) (by omega);have D:=hO.fz1 (a+k) (by omega);have y:=hO.fz2 (a+k) (by omega);have I:=λw=>jU (d:=d) (k:=k) (by omega) w;have W:=wrap_small ((a:Int)+(k:Int)) (by omega) (by omega);have B:=hO.up' (show a+k<60 by omega);have F:=f.up' (i:=125+(a+k)) (j:=185+(a+k)) (by omega) (by omega) (by omega) (by omega) (.int .u8 (zP d k)) (.bool true);have L:=y5 (v:=.int .i64 a) (j:=125+(a+k)) (u:=.int .u8 (zP d k)) t r.out.1
   have R:=qw (b:=⟨z,125+(a+k),none⟩) (u:=.int .u8 (zP d k)) A (by show 185+(a+k)≠125+(a+k);omega);have G:(wr.setCell ⟨z,125+(a+k),none⟩ (.int .u8 (zP d k))).frozen? ⟨z,185+(a+k),none⟩=false:=by simpa using y
   have HO2:Hid (Obj ((wr.setCell ⟨z,125+(a+k),none⟩ (.int .u8 (zP d k))).drew.setCell ⟨z,185+(a+k),none⟩ (.bool true)).drew z (zq s a d (k+1))):=B;have HW2:Hid (OffS z c ((wr.setCell ⟨z,125+(a+k),none⟩ (.int .u8 (zP d k))).drew.setCell ⟨z,185+(a+k),none⟩ (.bool true)).drew):=F;clear B F;go_wp2_with fail;go_region
   clear t K O A D y hO f I;generalize wr.setCell ⟨z,125+(a+k),none⟩ (.int .u8 (zP d k))=S at L R G HO2 HW2 |-;go_wp2_with fail;go_region
   go_wp2_with fail;go_roundg (d.size-(k+1))
   case measure=>have:=q.out;omega
   case rel=>exact⟨k+1,by have:=q.out;omega,by go_num,HO2.out,HW2.out⟩
  have e:k=d.size:=by have:=q.out;omega
  subst e;go_wp2_with fail;go_ret;exact⟨rfl,hO,(OffS.of_below n x.out).trans f⟩
theorem znx(h:Obj w z s)(c:z<w.heap.size)(p:Int)(d:ByteArray)(g:d.size<=140737488351232):Calls Tryz.prog 186 #[.pointer (some ⟨z,125,none⟩),.agg #[.int .i64 p,.string d]] w λe E=>e=.returned (zN (xg s p d))/\Turned w E z (xY s p d):=by
 cases hp:jy p with
 |false=>rw[ZK (by rw[Zm hp];decide),Zm hp,qj (by decide)];exact zn2 h c p d hp
 |true=>
  by_cases f:60<p+(d.size:Int);rw [ZK (by rw[Q6 hp f];decide),Q6 hp f,qj (by decide)];exact znz h c p d hp f g;obtain ⟨i,j⟩:0<=p/\p<=60:=of_decide_eq_true hp;obtain⟨a,rfl⟩:∃a:Nat,p=(a:Int):=⟨p.toNat,by omega⟩;cases b:xz s a d with
  |true=>
   have e:=VK (s:=s) (d:=d) hp (by omega) (by simpa using b);rw[ZK (by rw[e];decide),e,qj (by decide)];exact zny h c a d (by omega) b
  |false=>
   have e:=VL (s:=s) (d:=d) hp (by omega) (by simpa using b);rw[VM e,e,jm];exact Xq h c a d (by omega) b
end Go.Proofs.YtdokgalidhmbbaaGreatDoor.Sy
namespace Go.Proofs.YtdokgalidhmbbaaGreatDoor.Sx
open Go.RowKit Go.Lib Go.Sort
def val(s:St)(i:Nat):Int:=if s.cm i=true then s.byt i else -1
theorem JW{s:St}{i:Nat}(h:s.cm i=true):val s i=s.byt i:=if_pos h
theorem WE{s:St}{i:Nat}(h:s.cm i=false):val s i= -1:=if_neg (by rw[h];decide)
structure Ref(w:World)(B sb:Nat)(s:St):Prop where
 inv:Inv s
 cb:∀i,i<60->w.cell? ⟨sb,i,none⟩=some (.int .i64 (val s i))
 ct:w.cell? ⟨sb,60,none⟩=some (.int .i64 s.tk)
 fz:∀i,i<61->w.frozen? ⟨sb,i,none⟩=false
 hs:B<=sb
section
variable {w w' : World} {B sb : Nat} {s : St}
theorem Ref.lt(h:Ref w B sb s):sb<w.heap.size:=World.block_lt_of_cell? w _ h.ct
theorem Ref.off{K:Nat->Prop}(h:Ref w B sb s)(c:Off K w w')(a:¬K sb):Ref w' B sb s:=
 ⟨h.inv,λi b=>c.cell (h.cb i b) a,c.cell h.ct a,λi b=>(c.frozen (p:=⟨sb,i,none⟩) h.lt a).trans (h.fz i b),h.hs⟩
theorem Ref.below(h:Ref w B sb s)(a:Below w.heap.size w w'):Ref w' B sb s:=h.off (Off.of_below (K:=λ_=>False) a) id
theorem Ref.base(h:Ref w B sb s){a:Nat}(b:a<=B):Ref w a sb s:=⟨h.inv,h.cb,h.ct,h.fz,Nat.le_trans b h.hs⟩
theorem zt8(s:St)(a n:Nat)(d:ByteArray)(i:Nat):val (zq s a d (n+1)) i=if i=a+n then zP d n else val (zq s a d n) i:=by
 unfold val;rw[WB,Ql];by_cases e:i=a+n;simp [e];simp [e]
theorem Ref.up{a n:Nat}{d:ByteArray}(h:Ref w B sb (zq s a d n))(b:a+n<60):Ref (w.setCell ⟨sb,a+n,none⟩ (.int .i64 (zP d n))).drew B sb (zq s a d (n+1)):=by
 have o:Ref (w.setCell ⟨sb,a+n,none⟩ (.int .i64 (zP d n))) B sb (zq s a d (n+1)):=by
  refine⟨⟨h.inv.t,λi=>?_⟩,λi hi=>?_,qw h.ct (by show 60≠a+n;omega),λi hi=>by simpa using h.fz i hi,h.hs⟩;rw [Ql];by_cases e:i=a+n;simp only[e,if_true];exact wO _ _;simp only[e,if_false];exact h.inv.b i;rw [zt8];by_cases e:i=a+n;subst e;simp only[if_true];exact World.cell?_setCell_same _ _ _ (h.cb _ hi);simp only[e,if_false];exact qw (h.cb i hi) e
 exact o.below (below_drewN (Below.refl _ _) 1)
theorem Ref.take(h:Ref w B sb s){n z:Int}(b:z=((s.tk+takeN s n:Nat):Int)):Ref (w.setCell ⟨sb,60,none⟩ (.int .i64 z)) B sb (zm s n):=by
 subst b;exact⟨h.inv.take n,λi a=>qw (h.cb i a) (by show i≠60;omega),World.cell?_setCell_same _ _ _ h.ct,λi a=>by simpa using h.fz i a,h.hs⟩
end
def RTurned(w E:World)(B z:Nat)(s:St):Prop:=Ref E B z s/\Off (λk=>k=z) w E
variable {w:World}{B z:Nat}{s:St}
theorem RTurned.same(h:Ref w B z s):RTurned w w B z s:=⟨h,Off.refl _ _⟩
theorem RTurned.below{E:World}(h:Ref w B z s)(a:Below w.heap.size w E):RTurned w E B z s:=⟨h.below a,Off.of_below a⟩
def zr:Array Value:=Array.replicate 61 (.int .i64 0)
theorem zvc(w:World):(zeroValue 138).run Tryz.prog w=.ok (.agg zr) w:=by kernel_rfl
structure Pre(w:World)(sb k:Nat):Prop where
 cb:∀i,i<60->w.cell? ⟨sb,i,none⟩=some (.int .i64 (if i<k then -1 else 0))
 ct:w.cell? ⟨sb,60,none⟩=some (.int .i64 0)
 fz:∀i,i<61->w.frozen? ⟨sb,i,none⟩=false
theorem Pre.new(w:World):Pre (w.alloc (.cells zr 138)) w.heap.size 0:=by
 refine⟨λi a=>?_,?_,λi a=>?_⟩;have:zr[i]? =some (.int .i64 0):=by rw[zr,Array.getElem?_replicate,if_pos (by omega)]
 simp[this];have:zr[60]? =some (.int .i64 0):=by rw[zr,Array.getElem?_replicate,if_pos (by omega)]
 simp[this];.simp
theorem Pre.set{k:Nat}(h:Pre w z k)(c:k<60):Pre (w.setCell ⟨z,k,none⟩ (.int .i64 (-1))) z (k+1):=by
 refine⟨λi a=>?_,qw h.ct (by show 60≠k;omega),λi a=>by simpa using h.fz i a⟩;by_cases e:i=k;subst e;rw[World.cell?_setCell_same _ _ _ (h.cb i a),if_pos (by omega)];rw [qw (h.cb i a) e];by_cases b:i<k;rw [if_pos b,if_pos (by omega)];rw [if_neg b,if_neg (by omega)]
theorem Pre.ref(h:Pre w z 60):Ref w z z qE:=
 ⟨Inv.new,λi a=>by rw[h.cb i a,if_pos a];rfl,h.ct,h.fz,Nat.le_refl _⟩
theorem zp1(w:World):Calls Tryz.prog 39 #[] w λe E=>e=.returned (.pointer (some ⟨w.heap.size,0,none⟩))/\Ref E w.heap.size w.heap.size qE/\Below w.heap.size w E:=by
 have hP:=Pre.new w;have hb:Below w.heap.size w (w.alloc (.cells zr 138)):=(Below.refl _ _).alloc (Nat.le_refl _) _;have hz:=zvc;generalize zr=z at hP hb hz;go_enter Tryz.func39,Tryz.ntmps39
 go_wp2_with fail;clear hz;generalize w.alloc (.cells z 138)=W at hP hb |-;go_loopg [2] 60 (λgk l wr=>∃k:Nat,gk+k=60/\l=.int .i64 k/\Pre wr w.heap.size k/\Below w.heap.size w wr)
 case atStart=>exact⟨0,rfl,rfl,hP,hb⟩
 case round=>
  clear hP hb;obtain⟨k,d,rfl,hP,hb⟩:=hrel;have b:Hid (gk+k=60):=d;clear d;by_cases g:(k:Int)<60
  .have c:=hP.cb k (by omega);have f:=hP.fz k (by omega);have h:=hP.set (show k<60 by omega);have i:Below w.heap.size w (wr.setCell ⟨w.heap.size,k,none⟩ (.int .i64 (-1))):=hb.trans (((Off.refl (λj=>j=w.heap.size) wr).setCell (a:=⟨w.heap.size,k,none⟩) rfl (.int .i64 (-1))).below (λj e=>by rw[e];exact Nat.le_refl _) hb.size);go_wp2_with fail;go_roundg (60-(k+1))
   case measure=>have:=b.out;omega
   case rel=>exact⟨k+1,by have:=b.out;omega,by go_num,h,i⟩
  have e:k=60:=by have:=b.out;omega
  subst e;go_wp2_with fail;go_ret;exact⟨rfl,hP.ref,hb⟩
theorem zql(h:Ref w B z s):Calls Tryz.prog 65 #[.pointer (some ⟨z,0,none⟩)] w λe E=>e=.returned (.int .i64 (xP s:Int))/\∃m,E=w.drewN m:=by
 have J:=h.inv.t;have c0:=h.ct;have HS:Hid (∀n,n<60-s.tk->(∀i,i<n->s.cm (s.tk+i)=true)->s.cm (s.tk+n)=false->(xP s:Int)=n):=by
  show∀n,_->_->_->_;intro n t V o;rw[xP,JE _ _ _ n V t o]
 have HA:Hid ((∀i,i<60-s.tk->s.cm (s.tk+i)=true)->(xP s:Int)=((60-s.tk:Nat):Int)):=by
  show _->_;intro t;rw[xP,JD _ _ _ t]
 obtain⟨r,u⟩:∃r:Int,(xP s:Int)=r:=⟨_,rfl⟩;rw[u];rw[u]at HS HA;clear u;have HC:Hid (∀i,i<60->w.cell? ⟨z,i,none⟩=some (.int .i64 (val s i))):=h.cb;have v:=h.inv.b;have HV:Hid (∀i,(s.cm i=true->0<=val s i)/\(s.cm i=false->val s i= -1)):=by
  show∀i,_;intro i;exact⟨λe=>by rw[JW e];exact(v i).1,λe=>WE e⟩
 clear h v;generalize A:s.tk=T at*;generalize val s=C at HC HV;generalize s.cm=d at HS HA HV;clear A;go_enter Tryz.func65,Tryz.ntmps65
 go_wp2_with fail;go_loopg [3] (60-T) (λgk G wr=>∃k m:Nat,gk+k=60-T/\G=.int .i64 k/\Hid (∀i,i<k->d (T+i)=true)/\Hid (wr=w.drewN m))
 case atStart=>exact⟨0,0,rfl,rfl,(show∀i,i<0->d (T+i)=true from λi x=>by omega),rfl⟩
 case round=>
  obtain⟨k,m,F,rfl,c,l⟩:=hrel;have b:Hid (gk+k=60-T):=F;clear F;have H:wr.cell? ⟨z,60,none⟩=some (.int .i64 (T:Int)):=by rw[l.out];exact c0
  have p:Hid (∀q,∃m,wr.drewN q=w.drewN m):=by show∀q,_;intro q;rw[l.out,World.drewN_drewN];exact⟨_,rfl⟩
  have K:=wrap_small ((T:Int)+(k:Int)) (by have:=b.out;omega) (by have:=b.out;omega);by_cases g:(T:Int)+(k:Int)<60
  .have P:wr.cell? ⟨z,T+k,none⟩=some (.int .i64 (C (T+k))):=by rw[l.out];exact HC.out (T+k) (by omega)
   cases a:d (T+k)with
   |true=>
    have f:=(HV.out (T+k)).1 a;generalize C (T+k)=y at P f;have Q:Hid (∀i,i<k+1->d (T+i)=true):=by
     show∀i,_->_;intro i x;by_cases e:i=k;rw [e];exact a;exact c.out i (by omega)
    clear a c;go_wp2_with fail;go_quiet (fail)
    go_wp2_with fail;go_roundg (60-T-(k+1))
    case measure=>have:=b.out;omega
    case rel=>
     obtain⟨D,U⟩:=p.out _;exact⟨k+1,D,by have:=b.out;omega,by go_num,Q,U⟩
   |false=>
    have f:=(HV.out (T+k)).2 a;rw[f]at P;have j:Hid (r=(k:Int)):=HS.out k (by omega) c.out a;clear a c f;go_wp2_with fail;go_quiet (fail)
    go_wp2_with fail;go_ret;exact⟨by rw[j.out];rfl,p.out _⟩
  have j:Hid (r=(k:Int)):=by
   have e:(60-T:Nat)=k:=by have:=b.out;omega
   have:=HA.out λi x=>c.out i (by omega);rw[e]at this;exact this
  have I:decide ((T:Int)+(k:Int)<60)=false:=decide_eq_false g;go_wp2_with fail;go_quiet (fail)
  go_wp2_with fail;go_ret;exact⟨by rw[j.out];rfl,p.out _⟩
theorem zqk(h:Ref w B z s):Cl 65 #[.pointer (some ⟨z,0,none⟩)] w (.int .i64 (xP s:Int)):=
 (zql h).mono λe E ⟨a,m,b⟩=>⟨a,by rw[b];exact below_drewN (Below.refl _ _) m⟩
theorem Je{z:Int}(a:0<=z)(b:z<=255)(w:World):(convert 5 3 (.int .u8 z)).run Tryz.prog w=.ok (.int .i64 z) w:=by
 have:=wrap_small z (by omega) (by omega);have c:=Tryz.underlying5;have d:=Tryz.underlying3;go_simp
theorem zdd{z:Int}(a:0<=z)(b:z<=255)(w:World):(convert 3 5 (.int .i64 z)).run Tryz.prog w=.ok (.int .u8 z) w:=by
 have c:=Tryz.underlying5;have d:=Tryz.underlying3;have:IntKind.u8.wrap z=z:=by simp[IntKind.wrap,IntKind.bits,IntKind.signed];omega
 go_simp
theorem zqf(h:Ref w B z s)(p:Int)(d:ByteArray)(a:p<0):Calls Tryz.prog 63 #[.pointer (some ⟨z,0,none⟩),.int .i64 p,.string d] w λe E=>e=.returned (.int .i64 1)/\RTurned w E B z s:=by
 go_enter Tryz.func63,Tryz.ntmps63
 go_wp2_with fail;go_ret;exact⟨rfl,RTurned.same h⟩
theorem zqe(h:Ref w B z s)(p:Int)(d:ByteArray)(a:60<p):Calls Tryz.prog 63 #[.pointer (some ⟨z,0,none⟩),.int .i64 p,.string d] w λe E=>e=.returned (.int .i64 1)/\RTurned w E B z s:=by
 go_enter Tryz.func63,Tryz.ntmps63
 go_wp2_with fail;go_ret;exact⟨rfl,RTurned.same h⟩
theorem zqd(h:Ref w B z s)(p:Int)(d:ByteArray)(a:0<=p)(b:p<=60)(c:60<p+(d.size:Int))(f:d.size<=140737488351232):Calls Tryz.prog 63 #[.pointer (some ⟨z,0,none⟩),.int .i64 p,.string d] w λe E=>e=.returned (.int .i64 4)/\RTurned w E B z s:=by
 go_enter Tryz.func63,Tryz.ntmps63
 go_wp2_with fail;go_ret;exact⟨rfl,RTurned.same h⟩
theorem zqc{q:Nat}(h:Ref w B q s)(a:Nat)(d:ByteArray)(o:a+d.size<=60)(b:xz s a d=true):Calls Tryz.prog 63 #[.pointer (some ⟨q,0,none⟩),.int .i64 (a:Int),.string d] w λe E=>e=.returned (.int .i64 7)/\RTurned w E B q s:=by
 have r:=zC h;have P:=zC b;have q0:¬((a:Int)<0):=by omega
 have q1:¬((60:Int)<(a:Int)):=by omega
 have U:=wrap_small ((a:Int)+(d.size:Int)) (by omega) (by omega);have q2:¬((60:Int)<(a:Int)+(d.size:Int)):=by omega
 clear h b;go_enter Tryz.func63,Tryz.ntmps63
 go_wp2_with fail;clear q0 q1 q2 U;go_loopg [7] d.size (λgk Q V=>∃k:Nat,gk+k=d.size/\Q=.int .i64 k/\Hid (∀i,i<k->cl s a d i=false)/\Below w.heap.size w V)
 case atStart=>exact⟨0,rfl,rfl,(show∀i,i<0->cl s a d i=false from λi v=>by omega),Below.refl _ _⟩
 case round=>
  obtain⟨k,F,rfl,n,p⟩:=hrel;have l:Hid (gk+k=d.size):=F;clear F;by_cases g:(k:Int)<(d.size:Int)
  .have x0:=(r.out.below p).cb (a+k) (by omega)
   have x:=λw=>jU (d:=d) (k:=k) (by omega) w
   have u:=Je (wO d k).1 (wO d k).2
   have A:=wrap_small ((a:Int)+(k:Int)) (by omega) (by omega)
   have j:Hid (cl s a d k=false->∀i,i<k+1->cl s a d i=false):=by
    show _->_;intro b i v;by_cases e:i=k;rw [e];exact b;exact n.out i (by omega)
   have m:Hid (cl s a d k=true->xz s a d=true):=λb=>XD (by omega) b
   have HC:Hid (cl s a d k=(s.cm (a+k) && (s.byt (a+k) !=zP d k))):=rfl
   have t:=(r.out.inv.b (a+k)).1
   clear n
   cases f:s.cm (a+k)with
   |false=>
    have b:cl s a d k=false:=by rw[HC.out,f];rfl
    have c:Hid (∀i,i<k+1->cl s a d i=false):=j.out b;rw[WE f]at x0;clear j m HC b f t;generalize zP d k=z at x u;go_wp2_with fail;go_quiet (fail)
    go_wp2_with fail;go_roundg (d.size-(k+1))
    case measure=>have:=l.out;omega
    case rel=>exact⟨k+1,by have:=l.out;omega,by go_num,c,below_drewN p _⟩
   |true=>
    rw[JW f]at x0;rw[f]at HC;clear f;generalize s.byt (a+k)=y at x0 HC t;generalize zP d k=z at x HC u;by_cases e:y=z
    .subst e;have b:cl s a d k=false:=by rw[HC.out];simp
     have c:Hid (∀i,i<k+1->cl s a d i=false):=j.out b;clear j m HC b;go_wp2_with fail;go_quiet (fail)
     go_wp2_with fail;go_roundg (d.size-(k+1))
     case measure=>have:=l.out;omega
     case rel=>exact⟨k+1,by have:=l.out;omega,by go_num,c,below_drewN p _⟩
    have b:cl s a d k=true:=by rw[HC.out];simp[e]
    have c:Hid (xz s a d=true):=m.out b;clear j m HC b;go_wp2_with fail;go_quiet (fail)
    go_wp2_with fail;go_ret;exact⟨rfl,RTurned.below r.out (below_drewN p _)⟩
  have c:Hid (xz s a d=false):=XC λi v=>n.out i (by omega);clear n;have:=c.out;rw[P.out]at this;cases this
theorem zqg{f:Nat}(h:Ref w B f s)(a:Nat)(d:ByteArray)(J:a+d.size<=60)(b:xz s a d=false):Calls Tryz.prog 63 #[.pointer (some ⟨f,0,none⟩),.int .i64 (a:Int),.string d] w λe E=>e=.returned (.int .i64 0)/\RTurned w E B f (zq s a d d.size):=by
 have x:=zC h;have P:=zC b;have q0:¬((a:Int)<0):=by omega
 have q1:¬((60:Int)<(a:Int)):=by omega
 have G:=wrap_small ((a:Int)+(d.size:Int)) (by omega) (by omega);have q2:¬((60:Int)<(a:Int)+(d.size:Int)):=by omega
 clear h b;go_enter Tryz.func63,Tryz.ntmps63
 go_wp2_with fail;clear q0 q1 q2 G;go_loopg [7] d.size (λgk C wr=>∃k:Nat,gk+k=d.size/\C=.int .i64 k/\Hid (∀i,i<k->cl s a d i=false)/\Below w.heap.size w wr)
 case atStart=>exact⟨0,rfl,rfl,(show∀i,i<0->cl s a d i=false from λi U=>by omega),Below.refl _ _⟩
 case round=>
  obtain⟨k,q,rfl,t,m⟩:=hrel;have c:Hid (gk+k=d.size):=q;clear q;by_cases g:(k:Int)<(d.size:Int)
  .have x0:=(x.out.below m).cb (a+k) (by omega)
   have v:=λw=>jU (d:=d) (k:=k) (by omega) w
   have u:=Je (wO d k).1 (wO d k).2
   have H:=wrap_small ((a:Int)+(k:Int)) (by omega) (by omega)
   have p:Hid (cl s a d k=false->∀i,i<k+1->cl s a d i=false):=by
    show _->_;intro b i U;by_cases e:i=k;rw [e];exact b;exact t.out i (by omega)
   have r:Hid (cl s a d k=true->xz s a d=true):=λb=>XD (by omega) b
   have HC:Hid (cl s a d k=(s.cm (a+k) && (s.byt (a+k) !=zP d k))):=rfl
   have F:=(x.out.inv.b (a+k)).1
   clear t
   cases n:s.cm (a+k)with
   |false=>
    have b:cl s a d k=false:=by rw[HC.out,n];rfl
    have l:Hid (∀i,i<k+1->cl s a d i=false):=p.out b;rw[WE n]at x0;clear p r HC b n F;generalize zP d k=z at v u;go_wp2_with fail;go_quiet (fail)
    go_wp2_with fail;go_roundg (d.size-(k+1))
    case measure=>have:=c.out;omega
    case rel=>exact⟨k+1,by have:=c.out;omega,by go_num,l,below_drewN m _⟩
   |true=>
    rw[JW n]at x0;rw[n]at HC;clear n;generalize s.byt (a+k)=y at x0 HC F;generalize zP d k=z at v HC u;by_cases e:y=z
    .subst e;have b:cl s a d k=false:=by rw[HC.out];simp
     have l:Hid (∀i,i<k+1->cl s a d i=false):=p.out b;clear p r HC b;go_wp2_with fail;go_quiet (fail)
     go_wp2_with fail;go_roundg (d.size-(k+1))
     case measure=>have:=c.out;omega
     case rel=>exact⟨k+1,by have:=c.out;omega,by go_num,l,below_drewN m _⟩
    have b:cl s a d k=true:=by rw[HC.out];simp[e]
    have l:Hid (xz s a d=true):=r.out b;clear p r HC b;have:=l.out;rw[P.out]at this;cases this
  have l:Hid (xz s a d=false):=XC λi U=>t.out i (by omega);clear t;have o:Hid (Ref wr B f (zq s a d 0)):=by show Ref _ _ _ _;rw[WC];exact x.out.below m
  have A:Hid (Below w.heap.size w wr):=m;clear m l P;go_wp2_with fail;clear g;go_loopg [8] d.size (λgk D V=>∃k:Nat,gk+k=d.size/\D=.int .i64 k/\Ref V B f (zq s a d k)/\Off (λj=>j=f) wr V)
  case atStart=>exact⟨0,rfl,rfl,o.out,Off.refl _ _⟩
  case round=>
   clear c;obtain⟨k,q,rfl,hO,Q⟩:=hrel;have c:Hid (gk+k=d.size):=q;clear q;by_cases g:(k:Int)<(d.size:Int)
   .have x0:=hO.cb (a+k) (by omega);have I:=hO.fz (a+k) (by omega);have v:=λw=>jU (d:=d) (k:=k) (by omega) w;have u:=Je (wO d k).1 (wO d k).2;have H:=wrap_small ((a:Int)+(k:Int)) (by omega) (by omega);have hO2:=hO.up (show a+k<60 by omega);have HX2:=(Q.setCell (a:=⟨f,a+k,none⟩) rfl (.int .i64 (zP d k))).drew;generalize zP d k=z at v u hO2 HX2;go_wp2_with fail;go_region
    go_wp2_with fail;go_roundg (d.size-(k+1))
    case measure=>have:=c.out;omega
    case rel=>exact⟨k+1,by have:=c.out;omega,by go_num,hO2,HX2⟩
   have e:k=d.size:=by have:=c.out;omega
   subst e;go_wp2_with fail;go_ret;exact⟨rfl,hO,(Off.of_below A.out).trans Q⟩
theorem zqb(h:Ref w B z s)(p:Int)(d:ByteArray)(g:d.size<=140737488351232):Calls Tryz.prog 63 #[.pointer (some ⟨z,0,none⟩),.int .i64 p,.string d] w λe E=>e=.returned (.int .i64 (xg s p d))/\RTurned w E B z (xY s p d):=by
 cases hp:jy p with
 |false=>
  rw[ZK (by rw[Zm hp];decide),Zm hp];have:=of_decide_eq_false hp;by_cases f:p<0;exact zqf h p d f;exact zqe h p d (by omega)
 |true=>
  obtain⟨i,j⟩:0<=p/\p<=60:=of_decide_eq_true hp;by_cases c:60<p+(d.size:Int);rw [ZK (by rw[Q6 hp c];decide),Q6 hp c];exact zqd h p d i j c g;obtain ⟨a,rfl⟩:∃a:Nat,p=(a:Int):=⟨p.toNat,by omega⟩;cases b:xz s a d with
  |true=>
   have e:=VK (s:=s) (d:=d) hp (by omega) (by simpa using b);rw[ZK (by rw[e];decide),e];exact zqc h a d (by omega) b
  |false=>
   have e:=VL (s:=s) (d:=d) hp (by omega) (by simpa using b);rw[VM e,e];exact zqg h a d (by omega) b
theorem vR{P:Program}{W:Array Oper}{o:Oper}{a:Act}{K:Act->World->Prop}{Q:Exit->Act->World->Prop}{E:Prop}
  (I:o.guard=none) (s x:Operand) (t:TypeId) (L:o.op=Op.call {callee:=Callee.builtin Builtin.append,args:=#[s,x],argTypes:=#[t,t]})
  (T:Nat) (e:TypeId) (i:TypeInfo) (z:Value) (b k:Nat) (r:P.underlying t=some (.slice e)) (B:P.info? e=some i) (F:i.zero=some z) (U:i.size=b) (V:i.bytes=k) (A:z.cells.size=b) (C:0<b)
  (v:Value) (n:Nat) (l:List Value) (O:a.eval s=v) (M:w.ownsRow T e b v n l)
  (h:Addr) (m c:Nat) (f:List Value) (S:a.eval x=.slice (some h) m c) (J:f.length=m*b) (H:∀j u,f[j]? =some u->w.cell? (h.add j)=some u) (y:∀u∈f,u.oneCell'=true)
  (p:n+m<=maxLen) (q:(n+m)*k<=140737488355328) (G:T<=w.heap.size)
  (D:∀d g,g.ownsRow T e b d (n+m) (l++f)->w.grownBy g v.ownBlock->(d.ownBlock=v.ownBlock\/d.ownBlock=some w.heap.size)->K (a.put o.dst d) g):
  if Region.wanted o (yielded W a.tmps)=true then Oper.wp P o a w K Q else E:=by
 have R:Region.wanted o (yielded W a.tmps)=true:=by simp[Region.wanted,I]
 rw[if_pos R];obtain⟨d,g,N,X,Y,_,Z⟩:=run_append_own_at (P:=P) w T t o.type e i z b k r B F U V A C v n l M h m c f J H y p q G;unfold Oper.wp;simp[execOp,L,resolve,invoke,builtin,O,S,N,Result.andThen];exact D d g X Y Z
theorem zhy:(Tryz.prog.info? 5).map (λi=>(i.zero,i.size,i.bytes))=some (some (.int .u8 0),1,1):=by kernel_rfl
def wQ(s:St)(k:Nat):List Value:=(List.range k).map λi=>Value.int .u8 (s.byt (s.tk+i))
theorem zb5(s:St)(k:Nat):wQ s (k+1)=wQ s k++[.int .u8 (s.byt (s.tk+k))]:=by simp[wQ,List.range_succ]
theorem zb6(s:St)(n:Int):wQ s (takeN s n)=(xQ s n).map (Value.int .u8):=by simp[wQ,xQ]
theorem zlw{T:Nat}{v:Value}{n:Nat}{K:List Value}(h:w.ownsRow T 5 1 v n K)(c:n≠0):∃g a,v=.slice (some ⟨g,0,none⟩) n a:=by
 rcases h.2 with⟨rfl,b⟩|⟨g,a,d,rfl,_⟩;exact absurd b c;exact ⟨g,a,rfl⟩
theorem cell_one_new(w:World)(y:Value)(t:TypeId):∀j u,[y][j]? =some u->(w.alloc (.cells #[y] t)).cell? ((⟨w.heap.size,0,none⟩:Addr).add j)=some u:=by
 intro j u hj
 match j,hj with
 |0,hj=>simp at hj;subst hj;simp[Addr.add]
 |j+1,hj=>simp at hj
theorem zde{a:World}{T k c:Nat}{b:Option Addr}{L:List Int}(hown:a.ownsRow T 5 1 (.slice b k c) k (L.map (Value.int .u8)))(r:z<T)(u:Value):
  (convert 37 9 (.slice b k c)).run Tryz.prog (a.setCell ⟨z,60,none⟩ u)=.ok (.string (strOfNums L)) (a.setCell ⟨z,60,none⟩ u):=by
 have f:L.length=k:=by have:=hown.1;simp at this;omega
 rcases hown.2 with⟨e,l⟩|⟨g,h,j,e,m,n,q⟩;injection e with e1 e2 e3;subst e1;have:L=[]:=List.eq_nil_of_length_eq_zero (by omega);subst this;exact run_convert_bytes_nil _ 37 5 Tryz.underlying37 Tryz.underlying5 k c 9 Tryz.underlying9;injection e with e1 e2 e3;subst e1;refine run_convert_bytes_arg _ 37 5 Tryz.underlying37 Tryz.underlying5 g 0 k c L f (λi p=>?_) 9 Tryz.underlying9;have d:i<L.length:=by omega
 have hc:=hown.cells (g:=g) rfl i (.int .u8 (L.getD i 0)) (by simp[d]);rw[Addr.add_lit]at hc;rw[World.cell?_setCell_other _ _ _ _ (by intro e';injection e' with e' _ _;omega)];exact hc
theorem Va{b:Nat}(h:Ref w B b s)(n:Int)(hn:0<=n):Calls Tryz.prog 42 #[.pointer (some ⟨b,0,none⟩),.int .i64 n] w λe E=>e=.returned (.string (strOfNums (xQ s n)))/\RTurned w E B b (zm s n):=by
 have U:=zC h;have I:=h.lt;have P:=zqk h;have ht:=h.inv.t;have HV:Hid (∀i,i<takeN s n->val s (s.tk+i)=s.byt (s.tk+i)):=by
  show∀i,_;intro i D;exact JW (Ve _ _ _ _ (Nat.lt_of_lt_of_le D (Nat.min_le_right _ _)))
 have r:Hid (takeN s n=min n.toNat (xP s)):=rfl;have Z:=ZU s n;have H:=VY s;clear h;go_enter Tryz.func42,Tryz.ntmps42
 go_wp2_with fail;refine P.mono ?_;rintro e X ⟨rfl,hb1⟩;clear P;go_upto_if 12 with fail
 go_cut [5] (λR f=>R=.int .i64 (takeN s n:Int)/\f=X)
 case first=>
  by_cases g:n<(xP s:Int)
  .have HE:Hid (n=(takeN s n:Int)):=by show _=_;rw[r.out];omega
   go_wp2_with fail;go_meet
   exact⟨by rw[<-HE.out],rfl⟩
  have HE:Hid ((xP s:Int)=(takeN s n:Int)):=by show _=_;rw[r.out];omega
  go_wp2_with fail;go_meet
  exact⟨by rw[HE.out],rfl⟩
 case rest=>
  obtain⟨rfl,rfl⟩:=hcut;clear r H;have HT:Hid (wQ s (takeN s n)=(xQ s n).map (Value.int .u8)):=zb6 s n;have HZ:Hid (∀z,z=((s.tk+takeN s n:Nat):Int)->∀f,Ref f B b s->Ref (f.setCell ⟨b,60,none⟩ (.int .i64 z)) B b (zm s n)):=λz K f J=>J.take K;generalize takeN s n=m at*;obtain⟨O,G,L,M,N⟩:=info_parts zhy;go_wp2_with fail;go_loopg [6,7] m (λgk S T wr=>∃(k:Nat) (l:Option Addr) (c:Nat),gk+k=m/\S=.slice l k c/\T=.int .i64 k/\wr.ownsRow w.heap.size 5 1 (.slice l k c) k (wQ s k)/\Below w.heap.size w wr)
  case atStart=>exact⟨0,none,0,rfl,rfl,rfl,World.ownsRow_nil _ _ _ _,hb1⟩
  case round=>
   clear hb1;obtain⟨k,l,c,F,rfl,rfl,hown,p⟩:=hrel;have q:Hid (gk+k=m):=F;clear F;have d:=U.out.below p;have o:=d.ct;by_cases g:(k:Int)<(m:Int)
   .have x0:=d.cb (s.tk+k) (by omega);rw[HV.out k (by omega)]at x0;have t:=d.inv.b (s.tk+k);have hcv:=zdd t.1 t.2;have W:=wrap_small ((s.tk:Int)+(k:Int)) (by omega) (by omega);have v0:(0:Int)<=(s.tk:Int)+(k:Int):=by omega
    have v1:(s.tk:Int)+(k:Int)<60:=by omega
    have v2:((s.tk:Int)+(k:Int)).toNat=s.tk+k:=by omega
    have bd:Below wr.heap.size wr (wr.drew.alloc (.cells #[.int .u8 (s.byt (s.tk+k))] 5)):=(Below.refl wr.heap.size wr).drew.alloc (Nat.le_refl _) _;have hrow:=own_below hown bd;have hB2:=p.trans (bd.mono p.size);have hle2:w.heap.size<=(wr.drew.alloc (.cells #[.int .u8 (s.byt (s.tk+k))] 5)).heap.size:=hB2.size;have HE:Hid (wQ s (k+1)=wQ s k++[.int .u8 (s.byt (s.tk+k))]):=zb5 s k;clear d t;generalize s.byt (s.tk+k)=y at x0 hcv bd hrow hB2 hle2 HE
    go_wp2_with fail;go_region_law (refine vR rfl (.tmp 19) (.tmp 32) 37 rfl w.heap.size 5 O _ 1 1 Tryz.underlying37 G L M N rfl (by decide) (.slice l k c) k (wQ s k) (by simp[Act.eval,Act.put]) hrow ⟨wr.heap.size,0,none⟩ 1 1 [.int .u8 y] (by simp[Act.eval,Act.put]) rfl (cell_one_new wr.drew _ _) (by intro u hu;simp at hu;subst hu;rfl) (by unfold maxLen;omega) (by omega) hle2 ?_;intro v' w3 ho3 x hl3;obtain⟨A,V,rfl⟩:=zlw ho3 (by omega))
    all_goals
     have C:=hB2.grown x hle2 (λk e=>(hrow.lt k e).1)
     clear x0 hcv bd hrow hB2 hle2 x hl3 hown o
     go_wp2_with fail
     go_roundg (m-(k+1))
     case measure=>have:=q.out;omega
     case rel=>exact⟨k+1,some ⟨A,0,none⟩,V,by have:=q.out;omega,rfl,by go_num,by rw[HE.out];exact ho3,C⟩
   have e:k=m:=by have:=q.out;omega
   subst e;rw[HT.out]at hown;have W:=wrap_small ((s.tk:Int)+(k:Int)) (by omega) (by omega);have hcv:=zde hown I (.int .i64 ((s.tk:Int)+(k:Int)));have Y:=d.fz 60 (by omega);have v:RTurned w (wr.setCell ⟨b,60,none⟩ (.int .i64 ((s.tk:Int)+(k:Int)))) B b (zm s n):=
    ⟨HZ.out _ (by omega) _ d,((Off.of_below p).trans ((Off.refl (λj=>j=b) wr).setCell (a:=⟨b,60,none⟩) rfl _))⟩
   have Q:=zC v;clear v d hown;go_wp2_with fail;go_ret;exact⟨rfl,Q.out⟩
end Go.Proofs.YtdokgalidhmbbaaGreatDoor.Sx
