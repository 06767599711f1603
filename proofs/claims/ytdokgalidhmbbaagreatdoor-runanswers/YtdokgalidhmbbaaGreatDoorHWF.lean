/- What the law RunAnswers needs. -/
import Derived.Test.YtdokgalidhmbbaaGreatDoorHDD
import Derived.Test.YtdokgalidhmbbaaGreatDoorHWQ
import Derived.Test.YtdokgalidhmbbaaGreatDoorHWE
set_option linter.unusedVariables false
set_option linter.unusedSimpArgs false
set_option maxRecDepth 100000
set_option maxHeartbeats 8000000
namespace Go.Proofs.YtdokgalidhmbbaaGreatDoor
namespace Rn
open Go.RowKit
theorem Dk.off{K:Nat->Prop}{w E:World}{I:Value}{d H D:Nat}(h:Dk w I d H D)(a:Off K w E)(c:∀k,K k->18<=k)(f:¬K d)(g:¬K D):Dk E I d H D:=by
 have b:Below 18 w E:=a.below c h.env.low;refine⟨h.env.below b (Nat.le_refl _),?_,(a.block _ h.d_lt f).trans h.dk,Zj h.mp (a.block _ h.mb_lt g)⟩;obtain⟨m,e⟩:=h.mx;exact⟨m,(b.cell (p:=⟨2,0,none⟩) (show 2<18 by omega)).trans e⟩
structure Ds(w0 w:World)(bv:Value)(d tb mb:Nat)(u:Tv)(s:Tt):Prop where
 dk:Dk w bv d tb mb
 tk:TO w w0.heap.size tb u s
 nd:¬qi tb u d
 nm:¬qi tb u mb
 bel:Below w0.heap.size w0 w
 fm:V.Forms w0/\Cnts w0
 low:18<=w0.heap.size
def DTurn(Y w E:World)(I:Value)(d H D:Nat)(u:Tv)(s:Tt):Prop:=
 ∃a,Ds Y E I d H D a s/\Off (qi H u) w E/\∀k,qi H a k->qi H u k\/w.heap.size<=k
section
variable {w0 w w' w2 : World} {bv : Value} {d tb mb : Nat} {u : Tv} {s s' : Tt}
theorem Ds.own(h:Ds w0 w bv d tb mb u s){k:Nat}(a:qi tb u k):18<=k/\w0.heap.size<=k:=by
 have:=(h.tk.own_lt a).1;have:=h.low;omega
theorem Ds.turn(h:Ds w0 w bv d tb mb u s)(b:TTurn w w' w0.heap.size tb u s'):DTurn w0 w w' bv d tb mb u s':=by
 obtain⟨c,o,f,k⟩:=b;have g:=h.dk.d_lt;have i:=h.dk.mb_lt;refine⟨c,⟨h.dk.off f (λj a=>(h.own a).1) h.nd h.nm,o,λe=>?_,λe=>?_,?_,h.fm,h.low⟩,f,k⟩;rcases k _ e with e|e;exact h.nd e;.omega
 rcases k _ e with e|e;exact h.nm e;.omega
 exact h.bel.trans (f.below (λj a=>(h.own a).2) h.bel.size)
theorem Ds.below(h:Ds w0 w bv d tb mb u s)(a:Below w.heap.size w w'):Ds w0 w' bv d tb mb u s:=
 ⟨h.dk.below a,h.tk.below a,h.nd,h.nm,h.bel.trans (a.mono h.bel.size),h.fm,h.low⟩
theorem Ds.same(h:Ds w0 w bv d tb mb u s)(a:Below w.heap.size w w'):DTurn w0 w w' bv d tb mb u s:=⟨u,h.below a,Off.of_below a,λ_ b=>.inl b⟩
theorem DTurn.trans{n:Tt}{c:Tv}(q:Ds w0 w' bv d tb mb c n)(a:Off (qi tb u) w w')(f:∀k,qi tb c k->qi tb u k\/w.heap.size<=k)(j:DTurn w0 w' w2 bv d tb mb c s'):DTurn w0 w w2 bv d tb mb u s':=by
 obtain⟨p,m,b,l⟩:=j;refine⟨p,m,?_,λk h=>?_⟩;refine ⟨b.os.trans a.os,b.tape.trans a.tape,b.output.trans a.output,Nat.le_trans a.size b.size,λk g i=>?_⟩;rw[b.block k (Nat.lt_of_lt_of_le g a.size) (λe=>?_),a.block k g i];rcases f k e with h|h;exact i h;.omega
 rcases l k h with h|h;exact f k h;exact .inr (Nat.le_trans a.size h)
theorem DTurn.pre(a:Below w.heap.size w w')(h:Ds w0 w bv d tb mb u s)(b:DTurn w0 w' w2 bv d tb mb u s'):DTurn w0 w w2 bv d tb mb u s':=
 DTurn.trans (h.below a) (Off.of_below a) (λ_ c=>.inl c) b
theorem Ds.tbc(h:Ds w0 w bv d tb mb u s):w.cell? ⟨d,0,none⟩=some (.pointer (some ⟨tb,0,none⟩)):=by rw[Lib.cell_of_heap h.dk.dk];rfl
end
structure Bx4(w:World)(b:Nat)(x0 x1 x2 x3:Value):Prop where
 c0:w.cell? ⟨b,0,none⟩=some x0
 c1:w.cell? ⟨b,1,none⟩=some x1
 c2:w.cell? ⟨b,2,none⟩=some x2
 c3:w.cell? ⟨b,3,none⟩=some x3
theorem Bx4.new(w:World)(a b c d:Value):Bx4 (w.alloc (.cells #[a,b,c,d] 117)).drew w.heap.size a b c d:=by
 have e:(w.alloc (.cells #[a,b,c,d] 117)).heap[w.heap.size]? =some (.cells #[a,b,c,d] 117):=vB _ _;obtain⟨f,g,h,i⟩:=yF e;exact⟨f,g,h,i⟩
variable {Y w:World}{d H D:Nat}{u:Tv}{s:Tt}
theorem zcg{I:Value}(h:Ds Y w I d H D u s)(x y:Int)(b:ByteArray)(f:Lk.qN x=true->xV (s.who x)=0):Calls Tryz.prog 51 #[.pointer (some ⟨d,0,none⟩),.agg #[.string ⟨#[115,101,110,100]⟩,.int .i64 x,.int .i64 y,.string b]] w λe E=>e=.returned (.tuple #[.string ⟨#[111,107]⟩,zN (jH s x)])/\DTurn Y w E I d H D u (xy s x):=by
 have hb:Below w.heap.size w (w.alloc (.cells #[.string ⟨#[115,101,110,100]⟩,.int .i64 x,.int .i64 y,.string b] 117)).drew:=((Below.refl _ w).alloc (Nat.le_refl _) _).drew;obtain⟨i,j,k,l⟩:=Bx4.new w (.string ⟨#[115,101,110,100]⟩) (.int .i64 x) (.int .i64 y) (.string b);have h1:=h.below hb;have p:=h1.tbc;have HT:Hid (∀a c,DTurn Y (w.alloc (.cells #[.string ⟨#[115,101,110,100]⟩,.int .i64 x,.int .i64 y,.string b] 117)).drew a I d H D u c->DTurn Y w a I d H D u c):=λa c=>DTurn.pre hb h
 have HW:=ztp h1.tk x f (h1.fm.1.below h1.bel) (h1.fm.2.below h1.bel);have hT2:Hid (∀a,TTurn ((w.alloc (.cells #[.string ⟨#[115,101,110,100]⟩,.int .i64 x,.int .i64 y,.string b] 117)).drew) a Y.heap.size H u (xy s x)->DTurn Y ((w.alloc (.cells #[.string ⟨#[115,101,110,100]⟩,.int .i64 x,.int .i64 y,.string b] 117)).drew) a I d H D u (xy s x)):=λa=>h1.turn;generalize zN (jH s x)=m at HW |-;go_enter Tryz.func51,Tryz.ntmps51
 go_wp2;go_region
 all_goals generalize n:(w.alloc (.cells #[.string ⟨#[115,101,110,100]⟩,.int .i64 x,.int .i64 y,.string b] 117)).drew=W at*
 all_goals clear h1 h hb
 all_goals go_wp2_with (go_at_call 74;refine HW.mono ?_;rintro e a ⟨rfl,g⟩)
 all_goals go_wp2
 all_goals go_ret2
 all_goals exact⟨rfl,HT.out _ _ (hT2.out _ g)⟩
theorem zca{I:Value}(h:Ds Y w I d H D u s)(x y:Int)(b:ByteArray):Calls Tryz.prog 51 #[.pointer (some ⟨d,0,none⟩),.agg #[.string ⟨#[99,111,109,101]⟩,.int .i64 x,.int .i64 y,.string b]] w λe E=>e=.returned (.tuple #[.string ⟨#[111,107]⟩,zN (vT s x)])/\DTurn Y w E I d H D u (ko s x):=by
 have hb:Below w.heap.size w (w.alloc (.cells #[.string ⟨#[99,111,109,101]⟩,.int .i64 x,.int .i64 y,.string b] 117)).drew:=((Below.refl _ w).alloc (Nat.le_refl _) _).drew;obtain⟨g,i,j,k⟩:=Bx4.new w (.string ⟨#[99,111,109,101]⟩) (.int .i64 x) (.int .i64 y) (.string b);have h1:=h.below hb;have n:=h1.tbc;have HT:Hid (∀a c,DTurn Y (w.alloc (.cells #[.string ⟨#[99,111,109,101]⟩,.int .i64 x,.int .i64 y,.string b] 117)).drew a I d H D u c->DTurn Y w a I d H D u c):=λa c=>DTurn.pre hb h
 have HW:=zsr h1.tk h1.fm h1.bel x;have hT2:Hid (∀a,TTurn ((w.alloc (.cells #[.string ⟨#[99,111,109,101]⟩,.int .i64 x,.int .i64 y,.string b] 117)).drew) a Y.heap.size H u (ko s x)->DTurn Y ((w.alloc (.cells #[.string ⟨#[99,111,109,101]⟩,.int .i64 x,.int .i64 y,.string b] 117)).drew) a I d H D u (ko s x)):=λa=>h1.turn;generalize zN (vT s x)=l at HW |-;go_enter Tryz.func51,Tryz.ntmps51
 go_wp2;go_region
 all_goals generalize m:(w.alloc (.cells #[.string ⟨#[99,111,109,101]⟩,.int .i64 x,.int .i64 y,.string b] 117)).drew=W at*
 all_goals clear h1 h hb
 all_goals go_wp2_with (go_at_call 75;refine HW.mono ?_;rintro e a ⟨rfl,f⟩)
 all_goals go_wp2
 all_goals go_ret2
 all_goals exact⟨rfl,HT.out _ _ (hT2.out _ f)⟩
theorem zcc{I:Value}(h:Ds Y w I d H D u s)(x y:Int)(b:ByteArray):Calls Tryz.prog 51 #[.pointer (some ⟨d,0,none⟩),.agg #[.string ⟨#[108,111,115,101]⟩,.int .i64 x,.int .i64 y,.string b]] w λe E=>e=.returned (.tuple #[.string ⟨#[111,107]⟩,zN (Lk.xU s.ls x)])/\DTurn Y w E I d H D u (jf s x):=by
 have hb:Below w.heap.size w (w.alloc (.cells #[.string ⟨#[108,111,115,101]⟩,.int .i64 x,.int .i64 y,.string b] 117)).drew:=((Below.refl _ w).alloc (Nat.le_refl _) _).drew;obtain⟨g,i,j,k⟩:=Bx4.new w (.string ⟨#[108,111,115,101]⟩) (.int .i64 x) (.int .i64 y) (.string b);have h1:=h.below hb;have n:=h1.tbc;have HT:Hid (∀a c,DTurn Y (w.alloc (.cells #[.string ⟨#[108,111,115,101]⟩,.int .i64 x,.int .i64 y,.string b] 117)).drew a I d H D u c->DTurn Y w a I d H D u c):=λa c=>DTurn.pre hb h
 have HW:=ztc h1.tk x;have hT2:Hid (∀a,TTurn ((w.alloc (.cells #[.string ⟨#[108,111,115,101]⟩,.int .i64 x,.int .i64 y,.string b] 117)).drew) a Y.heap.size H u (jf s x)->DTurn Y ((w.alloc (.cells #[.string ⟨#[108,111,115,101]⟩,.int .i64 x,.int .i64 y,.string b] 117)).drew) a I d H D u (jf s x)):=λa=>h1.turn;generalize zN (Lk.xU s.ls x)=l at HW |-;go_enter Tryz.func51,Tryz.ntmps51
 go_wp2;go_region
 all_goals generalize m:(w.alloc (.cells #[.string ⟨#[108,111,115,101]⟩,.int .i64 x,.int .i64 y,.string b] 117)).drew=W at*
 all_goals clear h1 h hb
 all_goals go_wp2_with (go_at_call 76;refine HW.mono ?_;rintro e a ⟨rfl,f⟩)
 all_goals go_wp2
 all_goals go_ret2
 all_goals exact⟨rfl,HT.out _ _ (hT2.out _ f)⟩
theorem zch{I:Value}(h:Ds Y w I d H D u s)(x y:Int)(b:ByteArray):Calls Tryz.prog 51 #[.pointer (some ⟨d,0,none⟩),.agg #[.string ⟨#[116,119,105,99,101]⟩,.int .i64 x,.int .i64 y,.string b]] w λe E=>e=.returned (.tuple #[.string ⟨#[111,107]⟩,zN (Lk.xk s.ls x)])/\DTurn Y w E I d H D u (yS s x):=by
 have hb:Below w.heap.size w (w.alloc (.cells #[.string ⟨#[116,119,105,99,101]⟩,.int .i64 x,.int .i64 y,.string b] 117)).drew:=((Below.refl _ w).alloc (Nat.le_refl _) _).drew;obtain⟨g,i,j,k⟩:=Bx4.new w (.string ⟨#[116,119,105,99,101]⟩) (.int .i64 x) (.int .i64 y) (.string b);have h1:=h.below hb;have n:=h1.tbc;have HT:Hid (∀a c,DTurn Y (w.alloc (.cells #[.string ⟨#[116,119,105,99,101]⟩,.int .i64 x,.int .i64 y,.string b] 117)).drew a I d H D u c->DTurn Y w a I d H D u c):=λa c=>DTurn.pre hb h
 have HW:=ztv h1.tk x;have hT2:Hid (∀a,TTurn ((w.alloc (.cells #[.string ⟨#[116,119,105,99,101]⟩,.int .i64 x,.int .i64 y,.string b] 117)).drew) a Y.heap.size H u (yS s x)->DTurn Y ((w.alloc (.cells #[.string ⟨#[116,119,105,99,101]⟩,.int .i64 x,.int .i64 y,.string b] 117)).drew) a I d H D u (yS s x)):=λa=>h1.turn;generalize zN (Lk.xk s.ls x)=l at HW |-;go_enter Tryz.func51,Tryz.ntmps51
 go_wp2;go_region
 all_goals generalize m:(w.alloc (.cells #[.string ⟨#[116,119,105,99,101]⟩,.int .i64 x,.int .i64 y,.string b] 117)).drew=W at*
 all_goals clear h1 h hb
 all_goals go_wp2_with (go_at_call 77;refine HW.mono ?_;rintro e a ⟨rfl,f⟩)
 all_goals go_wp2
 all_goals go_ret2
 all_goals exact⟨rfl,HT.out _ _ (hT2.out _ f)⟩
end Rn
end Go.Proofs.YtdokgalidhmbbaaGreatDoor
namespace Go.Proofs.YtdokgalidhmbbaaGreatDoor
namespace Rn
open Go.RowKit
theorem Yq:(Tryz.prog.info? 9).map (λi=>(i.zero,i.size,i.bytes))=some (some (.string ⟨#[]⟩),1,16):=by kernel_rfl
def vM(l:List Int):List ByteArray:=l.map λi=>str (zT i.toNat)
theorem zd9{l:List Int}{k:Nat}(h:k<l.length):(vM (l.take (k+1))).map Value.string=(vM (l.take k)).map Value.string++[.string (str (zT (l[k]?.getD 0).toNat))]:=by
 rw[List.take_add_one,List.getElem?_eq_getElem h];unfold vM;rw[List.map_append,List.map_append];rfl
theorem YJ(l:List Int):(vM l).map (·.data.toList)=l.map λi=>zT i.toNat:=by
 unfold vM;rw[List.map_map];exact List.map_congr_left λi _=>qo _
theorem zii(l:List Int)(f:l.length<=4):(Lib.join (l.map λi=>zT i.toNat) [32]).length<=100:=by
 have e:∀i:Int,(zT i.toNat).length<=4:=λi=>kU _
 match l,f with
 |[],_=>exact Nat.zero_le _
 |[a],_=>
  have:=e a;simp[Lib.join,List.intercalate];omega
 |[a,b],_=>
  have:=e a;have:=e b;simp[Lib.join,List.intercalate];omega
 |[a,b,c],_=>
  have:=e a;have:=e b;have:=e c;simp[Lib.join,List.intercalate];omega
 |[a,b,c,d],_=>
  have:=e a;have:=e b;have:=e c;have:=e d;simp[Lib.join,List.intercalate];omega
 |_::_::_::_::_::_,h=>simp at h
theorem zdn(l:List Int)(C:l.length<=4)(m:∀z∈l,0<=z/\z<256){w:World}{I:Value}(h:Env w I):
  Cl 82 #[.string (strOfNums l)] w (.string (str (Lib.join (l.map λi=>zT i.toNat) [32]))):=by
 obtain⟨N,A,K,L,M⟩:=info_parts Yq;have a0:(strOfNums l).size=l.length:=strOfNums_size l;have hix:∀(k:Nat),k<l.length->∀W,(Instr.index 9 (.string (strOfNums l)) (.int .i64 (k:Int))).run Tryz.prog W=.ok (.int .u8 (l[k]?.getD 0)) W:=λk d W=>by
  rw[Sx.jU (by omega) W];have e:Sx.zP (strOfNums l) k=l[k]?.getD 0:=by
   have T:=m l[k] (List.getElem_mem d);have P:(strOfNums l).data[k]? =some (UInt8.ofNat l[k].toNat):=by
    rw[<-Array.getElem?_toList,strOfNums_data];simp[List.getElem?_eq_getElem d]
   unfold Sx.zP;rw[P,List.getElem?_eq_getElem d];simp only[Option.getD_some];rw[UInt8.toNat_ofNat'];omega
  rw[e]
 have B:=zC m;have p:=zC h;clear m h;generalize strOfNums l=s at*;go_enter Tryz.func82,Tryz.ntmps82
 go_wp2_with fail;go_loopw [3,7] (λv i wr=>∃k:Nat,k<=l.length/\i=.int .i64 k/\wr.ownsRow w.heap.size 9 1 v k ((vM (l.take k)).map Value.string)/\Below w.heap.size w wr) (λ_ i _=>l.length-(intOf i).toNat)
 case atStart=>exact⟨0,Nat.zero_le _,rfl,World.ownsRow_nil _ _ _ _,Below.refl _ _⟩
 case round=>
  obtain⟨k,d,rfl,hown,a⟩:=hrel;by_cases f:k<l.length
  .have Y:=hix k f;have hz:=B.out (l[k]?.getD 0) (by rw[List.getElem?_eq_getElem f];exact List.getElem_mem f);have hnx:Hid _:=zd9 f;have HI:=QV (l[k]?.getD 0) hz.1 (by omega) (p.out.below a p.out.low);have hdg:Hid (Lib.itoa (l[k]?.getD 0)=zT (l[k]?.getD 0).toNat):=by
    have:=Z7 (l[k]?.getD 0).toNat (by omega);rwa[Int.toNat_of_nonneg hz.1]at this
   generalize l[k]?.getD 0=z at*;obtain⟨a2,a3⟩:=hz;have R:(k:Int)<(s.size:Int):=by omega
   clear hix;go_wp2_with (go_at_call 79;refine HI.mono ?_);rintro e n ⟨b,rfl,U,c⟩;have y:=own_below hown c;go_wp2_with (at_builtin;refine wpList_append_own _ rfl _ _ 23 rfl w.heap.size 9 N (.string ⟨#[]⟩) 1 16 Tryz.underlying23 A K L M rfl (by decide) _ _ _ rfl (y.alloc _) ⟨n.heap.size,0,none⟩ 1 1 [.string b] rfl rfl ?c1 ?c2 ?c3 ?c4 ?c5 ?_);case c1=>
    intro j u hj
    match j,hj with
    |0,hj=>simp at hj;subst hj;simp[Addr.add]
   case c2=>intro u hu;simp at hu;subst hu;rfl
   case c3=>unfold maxLen;omega
   case c4=>omega
   case c5=>have:=a.size;have:=c.size;simp;omega
   intro v' w2 G V _;go_wp2;go_roundw
   case rel=>
    have H:=a.size;have a1:=c.size;refine⟨k+1,by omega,by simp,?_,?_⟩;rw [hnx.out];have o:b=str (zT z.toNat):=by rw[<-kK b,U,hdg.out]
    rw[<-o];exact G;exact ((a.trans (c.mono H)).alloc (by omega) _).grown V (by simp;omega) (λj hj=>(y.lt j hj).1)
   case measure=>simp[intOf];omega
  obtain rfl:k=l.length:=by omega
  rw[List.take_length]at hown;have S:¬(l.length:Int)<(s.size:Int):=by omega
  rcases hown.2 with⟨rfl,hn⟩|⟨g,F,O,rfl,X,q,r⟩
  .have D:l=[]:=by
    rcases l with _|⟨z,zs⟩;.rfl
    simp [vM]at hn
   subst D;have HJ:=Tryz.strings_Join_none none 0 ⟨#[32]⟩ wr;go_wp2_with (go_at_call 109;refine HJ.mono ?_;rintro e n ⟨rfl,J⟩;obtain rfl:=J.symm);go_ret;exact⟨rfl,a⟩
  have t:(vM l).length=l.length:=List.length_map _;have Z:maxLen=9223372036854775807:=rfl;have Q:(Lib.join ((vM l).map (·.data.toList)) [32]).length<=140737488355328:=by
   rw[YJ];exact Nat.le_trans (zii l C) (by decide)
  have HJ:=Tryz.strings_Join g 0 F (vM l) ⟨#[32]⟩ wr (λj x hj=>by
   rw[Lib.cell_of_heap q];have h1:((vM l).map Value.string)[j]? =some (.string x):=by rw[List.getElem?_map,hj];rfl
   rw[<-r.2.2.2,Nat.mul_one,List.getElem?_take]at h1;split at h1;rw [Nat.zero_add,<-Array.getElem?_toList];exact h1;cases h1) (Array.getElem?_eq_some_iff.1 q).1 (by omega) (by rw[t];exact r.1) Q
  rw[t]at HJ;have hE:Hid (str (Lib.join (l.map λi=>zT i.toNat) [32])=⟨(Lib.join ((vM l).map (·.data.toList)) (ByteArray.mk #[32]).data.toList).toArray⟩):=by
   show _=_;rw[YJ];rfl
  generalize(ByteArray.mk (Lib.join ((vM l).map (·.data.toList)) (ByteArray.mk #[32]).data.toList).toArray)=jn at HJ hE;go_wp2_with (go_at_call 109;refine HJ.mono ?_;rintro e n ⟨rfl,c⟩);go_ret;exact⟨by rw[hE.out];rfl,a.trans (c.mono a.size)⟩
end Rn
end Go.Proofs.YtdokgalidhmbbaaGreatDoor
namespace Go.Proofs.YtdokgalidhmbbaaGreatDoor
namespace Rn
open Go.RowKit
theorem bJ{n:Int}(h:0<=n/\n<=9999):(V.nums n).length<=4/\∀z∈V.nums n,0<=z/\z<256:=by
 unfold V.nums;split;exact ⟨by simp,λz a=>by simp at a;omega⟩;split;exact ⟨by simp,λz a=>by simp at a;omega⟩;.omega
theorem zr3(b:ByteArray):(b=emp/\jv b=[45])\/(b≠emp/\jv b=b.data.toList):=by
 unfold jv;by_cases h:b=emp;subst h;exact .inl ⟨rfl,rfl⟩;refine .inr ⟨h,if_neg λe=>h ?_⟩;apply yZ;have:b.data.toList.length=0:=by rw[<-Lib.size_eq];exact e
 rw[List.length_eq_zero_iff.1 this]
variable {Y w:World}{d H D:Nat}{u:Tv}{s:Tt}
theorem ZN{I:Value}(h:Ds Y w I d H D u s)(x y:Int):
  Calls Tryz.prog 78 #[.pointer (some ⟨d,0,none⟩),.int .i64 x,.int .i64 y] w λe E=>e=.returned (.tuple #[.string (str (jv (ve s x y))),zN (jY s x y)])/\DTurn Y w E I d H D u (kD s x y):=by
 have m:=h.tbc;have HW:=ztm h.tk x y;have i:Hid (∀b,TTurn w b Y.heap.size H u (kD s x y)->DTurn Y w b I d H D u (kD s x y)):=λb=>h.turn;have ho:=zr3 (ve s x y);clear h;generalize zN (jY s x y)=k at HW |-;generalize ve s x y=c at HW ho |-;rcases ho with⟨rfl,ho⟩|⟨j,ho⟩
 .have f:str (jv emp)=⟨#[45]⟩:=by rw[ho];rfl
  go_enter Tryz.func78,Tryz.ntmps78
  go_wp2_with (go_at_call 105;refine HW.mono ?_;rintro e b ⟨rfl,g⟩);go_ret2
  exact⟨by rw[f];rfl,i.out _ g⟩
 have f:str (jv c)=c:=by rw[ho,kK]
 have n:c.toList.isEmpty=false:=by
  rw[toList_data]
  cases e:c.data.toList with
  |nil=>exact absurd (yZ (by rw[e])) j
  |cons a l=>rfl
 go_enter Tryz.func78,Tryz.ntmps78
 go_wp2_with (go_at_call 105;refine HW.mono ?_;rintro e b ⟨rfl,g⟩);go_ret2
 exact⟨by rw[f];rfl,i.out _ g⟩
theorem zcj{I:Value}(h:Ds Y w I d H D u s)(x y:Int)(a:ByteArray)(i:a.size<=140737488351232):Calls Tryz.prog 51 #[.pointer (some ⟨d,0,none⟩),.agg #[.string ⟨#[119,114,105,116,101]⟩,.int .i64 x,.int .i64 y,.string a]] w λe E=>e=.returned (.tuple #[.string ⟨#[111,107]⟩,zN (kM s x a)])/\DTurn Y w E I d H D u (kP s x a):=by
 have hb:Below w.heap.size w (w.alloc (.cells #[.string ⟨#[119,114,105,116,101]⟩,.int .i64 x,.int .i64 y,.string a] 117)).drew:=((Below.refl _ w).alloc (Nat.le_refl _) _).drew;obtain⟨j,k,l,b3⟩:=Bx4.new w (.string ⟨#[119,114,105,116,101]⟩) (.int .i64 x) (.int .i64 y) (.string a);have h1:=h.below hb;have hd:=h1.tbc;have HT:Hid (∀b f,DTurn Y (w.alloc (.cells #[.string ⟨#[119,114,105,116,101]⟩,.int .i64 x,.int .i64 y,.string a] 117)).drew b I d H D u f->DTurn Y w b I d H D u f):=λb f=>DTurn.pre hb h
 have g:=h1.below ((Below.refl _ _).drew);have HW:=zt3 g.tk x a i;have hT2:Hid (∀b,TTurn ((w.alloc (.cells #[.string ⟨#[119,114,105,116,101]⟩,.int .i64 x,.int .i64 y,.string a] 117)).drew).drew b Y.heap.size H u (kP s x a)->DTurn Y ((w.alloc (.cells #[.string ⟨#[119,114,105,116,101]⟩,.int .i64 x,.int .i64 y,.string a] 117)).drew) b I d H D u (kP s x a)):=λb c=>DTurn.pre ((Below.refl _ _).drew) h1 (g.turn c)
 generalize zN (kM s x a)=n at HW |-;go_enter Tryz.func51,Tryz.ntmps51
 go_wp2;go_region
 all_goals generalize p:(w.alloc (.cells #[.string ⟨#[119,114,105,116,101]⟩,.int .i64 x,.int .i64 y,.string a] 117)).drew=W at*
 all_goals clear h1 h hb
 all_goals go_wp2
 all_goals have q:W.drew.cell? ⟨d,0,none⟩=some (.pointer (some ⟨H,0,none⟩)):=hd
 all_goals have m:W.drew.cell? ⟨w.heap.size,3,none⟩=some (.string a):=b3
 all_goals go_region_with (go_at_call 73;refine HW.mono ?_;rintro e b ⟨rfl,c⟩)
 all_goals go_wp2
 all_goals go_ret2
 all_goals exact⟨rfl,HT.out _ _ (hT2.out _ c)⟩
theorem zcf{I:Value}(h:Ds Y w I d H D u s)(x y:Int)(a:ByteArray):Calls Tryz.prog 51 #[.pointer (some ⟨d,0,none⟩),.agg #[.string ⟨#[114,101,97,100]⟩,.int .i64 x,.int .i64 y,.string a]] w λe E=>e=.returned (.tuple #[.string (str (jv (ve s x y))),zN (jY s x y)])/\DTurn Y w E I d H D u (kD s x y):=by
 have hb:Below w.heap.size w (w.alloc (.cells #[.string ⟨#[114,101,97,100]⟩,.int .i64 x,.int .i64 y,.string a] 117)).drew:=((Below.refl _ w).alloc (Nat.le_refl _) _).drew;obtain⟨g,i,j,k⟩:=Bx4.new w (.string ⟨#[114,101,97,100]⟩) (.int .i64 x) (.int .i64 y) (.string a);have h1:=h.below hb;have n:=h1.tbc;have HT:Hid (∀b c,DTurn Y (w.alloc (.cells #[.string ⟨#[114,101,97,100]⟩,.int .i64 x,.int .i64 y,.string a] 117)).drew b I d H D u c->DTurn Y w b I d H D u c):=λb c=>DTurn.pre hb h
 have HW:=ZN h1 x y;generalize zN (jY s x y)=l at HW |-;generalize str (jv (ve s x y))=p at HW |-;go_enter Tryz.func51,Tryz.ntmps51
 go_wp2;go_region
 all_goals generalize m:(w.alloc (.cells #[.string ⟨#[114,101,97,100]⟩,.int .i64 x,.int .i64 y,.string a] 117)).drew=W at*
 all_goals clear h1 h hb
 all_goals go_wp2_with (go_at_call 78;refine HW.mono ?_;rintro e b ⟨rfl,f⟩)
 all_goals go_wp2
 all_goals go_ret2
 all_goals exact⟨rfl,HT.out _ _ f⟩
theorem zcb{I:Value}(h:Ds Y w I d H D u s)(x y:Int)(c:ByteArray):Calls Tryz.prog 51 #[.pointer (some ⟨d,0,none⟩),.agg #[.string ⟨#[99,111,117,110,116]⟩,.int .i64 x,.int .i64 y,.string c]] w λe E=>e=.returned (.tuple #[.string (str (zT s.ls.length)),zN 0])/\DTurn Y w E I d H D u s:=by
 have hb:Below w.heap.size w (w.alloc (.cells #[.string ⟨#[99,111,117,110,116]⟩,.int .i64 x,.int .i64 y,.string c] 117)).drew:=((Below.refl _ w).alloc (Nat.le_refl _) _).drew;obtain⟨k,l,m,p⟩:=Bx4.new w (.string ⟨#[99,111,117,110,116]⟩) (.int .i64 x) (.int .i64 y) (.string c);have h1:=h.below hb;have r:=h1.tbc;have HT:Hid (∀a f,DTurn Y (w.alloc (.cells #[.string ⟨#[99,111,117,110,116]⟩,.int .i64 x,.int .i64 y,.string c] 117)).drew a I d H D u f->DTurn Y w a I d H D u f):=λa f=>DTurn.pre hb h
 have HW:=zst h1.tk;have HI:=QV (s.ls.length:Int) (by omega) (by have:=h1.tk.il.few;omega) h1.dk.env;have hdg:Hid (Lib.itoa (s.ls.length:Int)=zT s.ls.length):=Z7 _ (by have:=h1.tk.il.few;omega);have hS:Hid (∀a,Below ((w.alloc (.cells #[.string ⟨#[99,111,117,110,116]⟩,.int .i64 x,.int .i64 y,.string c] 117)).drew).heap.size ((w.alloc (.cells #[.string ⟨#[99,111,117,110,116]⟩,.int .i64 x,.int .i64 y,.string c] 117)).drew) a->DTurn Y ((w.alloc (.cells #[.string ⟨#[99,111,117,110,116]⟩,.int .i64 x,.int .i64 y,.string c] 117)).drew) a I d H D u s):=λa=>h1.same
 generalize s.ls.length=n at*;go_enter Tryz.func51,Tryz.ntmps51
 go_wp2;go_region
 all_goals generalize q:(w.alloc (.cells #[.string ⟨#[99,111,117,110,116]⟩,.int .i64 x,.int .i64 y,.string c] 117)).drew=W at*
 all_goals clear h1 h hb
 all_goals go_wp2_with (first|(go_at_call 80;refine HW.mono ?_;rintro e a ⟨rfl,j⟩;obtain rfl:=j.symm)|(go_at_call 79;refine HI.mono ?_;rintro e t ⟨b,rfl,i,g⟩))
 all_goals go_wp2
 all_goals go_ret2
 all_goals exact⟨by rw[<-kK b,i,hdg.out];rfl,HT.out _ _ (hS.out _ g)⟩
theorem zci{I:Value}(h:Ds Y w I d H D u s)(x y:Int)(b:ByteArray)(g:0<=x/\x<=9999):Calls Tryz.prog 51 #[.pointer (some ⟨d,0,none⟩),.agg #[.string ⟨#[118,97,114,105,110,116]⟩,.int .i64 x,.int .i64 y,.string b]] w λe E=>e=.returned (.tuple #[.string (str (dec x)),zN 0])/\DTurn Y w E I d H D u s:=by
 have hb:Below w.heap.size w (w.alloc (.cells #[.string ⟨#[118,97,114,105,110,116]⟩,.int .i64 x,.int .i64 y,.string b] 117)).drew:=((Below.refl _ w).alloc (Nat.le_refl _) _).drew;obtain⟨k,l,m,n⟩:=Bx4.new w (.string ⟨#[118,97,114,105,110,116]⟩) (.int .i64 x) (.int .i64 y) (.string b);have h1:=h.below hb;have q:=h1.tbc;have HT:Hid (∀a f,DTurn Y (w.alloc (.cells #[.string ⟨#[118,97,114,105,110,116]⟩,.int .i64 x,.int .i64 y,.string b] 117)).drew a I d H D u f->DTurn Y w a I d H D u f):=λa f=>DTurn.pre hb h
 have HW:=V.Xq x ((w.alloc (.cells #[.string ⟨#[118,97,114,105,110,116]⟩,.int .i64 x,.int .i64 y,.string b] 117)).drew) (h1.fm.1.below h1.bel) (decide_eq_true ⟨by omega,by omega⟩);have HD:Hid (∀a,Below ((w.alloc (.cells #[.string ⟨#[118,97,114,105,110,116]⟩,.int .i64 x,.int .i64 y,.string b] 117)).drew).heap.size ((w.alloc (.cells #[.string ⟨#[118,97,114,105,110,116]⟩,.int .i64 x,.int .i64 y,.string b] 117)).drew) a->Cl 82 #[.string (strOfNums (V.nums x))] a (.string (str (dec x)))):=λa c=>zdn (V.nums x) (bJ g).1 (bJ g).2 (h1.dk.env.below c h1.dk.env.low)
 have hS:Hid (∀a,Below ((w.alloc (.cells #[.string ⟨#[118,97,114,105,110,116]⟩,.int .i64 x,.int .i64 y,.string b] 117)).drew).heap.size ((w.alloc (.cells #[.string ⟨#[118,97,114,105,110,116]⟩,.int .i64 x,.int .i64 y,.string b] 117)).drew) a->DTurn Y ((w.alloc (.cells #[.string ⟨#[118,97,114,105,110,116]⟩,.int .i64 x,.int .i64 y,.string b] 117)).drew) a I d H D u s):=λa=>h1.same;generalize str (dec x)=r at HD |-
 generalize strOfNums (V.nums x)=t at HW HD;go_enter Tryz.func51,Tryz.ntmps51
 go_wp2;go_region
 all_goals generalize p:(w.alloc (.cells #[.string ⟨#[118,97,114,105,110,116]⟩,.int .i64 x,.int .i64 y,.string b] 117)).drew=W at*
 all_goals clear h1 h hb
 all_goals go_wp2_with (go_at_call 81;refine HW.mono ?_;rintro e a ⟨rfl,c⟩;have i:=HD.out a c)
 all_goals go_wp2_with (go_at_call 82;refine i.mono ?_;rintro e v ⟨rfl,j⟩)
 all_goals go_wp2
 all_goals go_ret2
 all_goals exact⟨rfl,HT.out _ _ (hS.out _ (c.trans (j.mono c.size)))⟩
theorem zce{I:Value}(h:Ds Y w I d H D u s)(x y:Int)(a:ByteArray)(k:U.qb x y=true):Calls Tryz.prog 51 #[.pointer (some ⟨d,0,none⟩),.agg #[.string ⟨#[110,101,101,100]⟩,.int .i64 x,.int .i64 y,.string a]] w λe E=>e=.returned (.tuple #[.string (str (zT (U.need x y).toNat)),zN 0])/\DTurn Y w E I d H D u s:=by
 have hb:Below w.heap.size w (w.alloc (.cells #[.string ⟨#[110,101,101,100]⟩,.int .i64 x,.int .i64 y,.string a] 117)).drew:=((Below.refl _ w).alloc (Nat.le_refl _) _).drew;obtain⟨m,n,p,q⟩:=Bx4.new w (.string ⟨#[110,101,101,100]⟩) (.int .i64 x) (.int .i64 y) (.string a);have h1:=h.below hb;have t:=h1.tbc;have HT:Hid (∀c g,DTurn Y (w.alloc (.cells #[.string ⟨#[110,101,101,100]⟩,.int .i64 x,.int .i64 y,.string a] 117)).drew c I d H D u g->DTurn Y w c I d H D u g):=λc g=>DTurn.pre hb h
 have HW:=U.Xe x y ((w.alloc (.cells #[.string ⟨#[110,101,101,100]⟩,.int .i64 x,.int .i64 y,.string a] 117)).drew) k;have f:0<=U.need x y/\U.need x y<10000:=by unfold U.need;(repeat' split)<;>decide
 have HI:=QV (U.need x y) f.1 (by have:=f.2;omega) h1.dk.env;have hdg:Hid (Lib.itoa (U.need x y)=zT (U.need x y).toNat):=by
  have:=Z7 (U.need x y).toNat (by have:=f.2;omega);rwa[Int.toNat_of_nonneg f.1]at this
 have hS:Hid (∀c,Below ((w.alloc (.cells #[.string ⟨#[110,101,101,100]⟩,.int .i64 x,.int .i64 y,.string a] 117)).drew).heap.size ((w.alloc (.cells #[.string ⟨#[110,101,101,100]⟩,.int .i64 x,.int .i64 y,.string a] 117)).drew) c->DTurn Y ((w.alloc (.cells #[.string ⟨#[110,101,101,100]⟩,.int .i64 x,.int .i64 y,.string a] 117)).drew) c I d H D u s):=λc=>h1.same;clear f;generalize U.need x y=v at*;go_enter Tryz.func51,Tryz.ntmps51
 go_wp2;go_region
 all_goals generalize r:(w.alloc (.cells #[.string ⟨#[110,101,101,100]⟩,.int .i64 x,.int .i64 y,.string a] 117)).drew=W at*
 all_goals clear h1 h hb
 all_goals go_wp2_with (first|(go_at_call 83;refine HW.mono ?_;rintro e c ⟨rfl,l⟩;obtain rfl:=l.symm)|(go_at_call 79;refine HI.mono ?_;rintro e B ⟨b,rfl,j,i⟩))
 all_goals go_wp2
 all_goals go_ret2
 all_goals exact⟨by rw[<-kK b,j,hdg.out];rfl,HT.out _ _ (hS.out _ i)⟩
theorem zcd{I:Value}(h:Ds Y w I d H D u s)(x y:Int)(a:ByteArray)(l:U.qb x y=false):Calls Tryz.prog 51 #[.pointer (some ⟨d,0,none⟩),.agg #[.string ⟨#[110,101,101,100]⟩,.int .i64 x,.int .i64 y,.string a]] w λe E=>e=.returned (.tuple #[.string (str (zT ((0:Int)).toNat)),zN 1])/\DTurn Y w E I d H D u s:=by
 have hb:Below w.heap.size w (w.alloc (.cells #[.string ⟨#[110,101,101,100]⟩,.int .i64 x,.int .i64 y,.string a] 117)).drew:=((Below.refl _ w).alloc (Nat.le_refl _) _).drew;obtain⟨n,p,q,r⟩:=Bx4.new w (.string ⟨#[110,101,101,100]⟩) (.int .i64 x) (.int .i64 y) (.string a);have h1:=h.below hb;have v:=h1.tbc;have HT:Hid (∀c g,DTurn Y (w.alloc (.cells #[.string ⟨#[110,101,101,100]⟩,.int .i64 x,.int .i64 y,.string a] 117)).drew c I d H D u g->DTurn Y w c I d H D u g):=λc g=>DTurn.pre hb h
 have HW:=U.Xd x y ((w.alloc (.cells #[.string ⟨#[110,101,101,100]⟩,.int .i64 x,.int .i64 y,.string a] 117)).drew) l;have f:0<=(0:Int)/\(0:Int)<10000:=by decide
 have HI:=QV ((0:Int)) f.1 (by have:=f.2;omega) h1.dk.env;have k:Hid (Lib.itoa ((0:Int))=zT ((0:Int)).toNat):=by
  have:=Z7 ((0:Int)).toNat (by have:=f.2;omega);rwa[Int.toNat_of_nonneg f.1]at this
 have hS:Hid (∀c,Below ((w.alloc (.cells #[.string ⟨#[110,101,101,100]⟩,.int .i64 x,.int .i64 y,.string a] 117)).drew).heap.size ((w.alloc (.cells #[.string ⟨#[110,101,101,100]⟩,.int .i64 x,.int .i64 y,.string a] 117)).drew) c->DTurn Y ((w.alloc (.cells #[.string ⟨#[110,101,101,100]⟩,.int .i64 x,.int .i64 y,.string a] 117)).drew) c I d H D u s):=λc=>h1.same;clear f;go_enter Tryz.func51,Tryz.ntmps51
 go_wp2;go_region
 all_goals generalize t:(w.alloc (.cells #[.string ⟨#[110,101,101,100]⟩,.int .i64 x,.int .i64 y,.string a] 117)).drew=W at*
 all_goals clear h1 h hb
 all_goals go_wp2_with (first|(go_at_call 83;refine HW.mono ?_;rintro e c ⟨rfl,m⟩;obtain rfl:=m.symm)|(go_at_call 79;refine HI.mono ?_;rintro e B ⟨b,rfl,j,i⟩))
 all_goals go_wp2
 all_goals go_ret2
 all_goals exact⟨by rw[<-kK b,j,k.out];rfl,HT.out _ _ (hS.out _ i)⟩
end Rn
end Go.Proofs.YtdokgalidhmbbaaGreatDoor
namespace Go.Proofs.YtdokgalidhmbbaaGreatDoor
namespace Rn
open Go.RowKit
variable {l:List UInt8}
theorem zug(h:qd l≠none):l=[99,111,109,101]\/l=[99,111,117,110,116]\/l=[108,111,115,101]\/l=[110,101,101,100]\/l=[114,101,97,100]\/l=[115,101,110,100]\/l=[116,119,105,99,101]\/l=[118,97,114,105,110,116]\/l=[119,114,105,116,101]:=by
 unfold qd at h;repeat' split at h
 all_goals first|exact absurd rfl h|skip
 all_goals simp_all
theorem bE{v:Int}(h:zV l=some v):0<=v/\v<=9999:=by
 obtain⟨n,rfl,a,_⟩:=Kl h;omega
theorem zg0{X:List (List UInt8)}{m:Nat}(h:∀p∈X,p.length<=m)(j:Nat):(X.getD j []).length<=m:=by
 rw[List.getD]
 cases e:X[j]? with
 |none=>exact Nat.zero_le _
 |some p=>exact h p (List.mem_of_getElem? e)
theorem YA(c:UInt8):∀(l:List UInt8),∀p∈zO c l,p.length<=l.length
 |[],p,hp=>by simp[zO]at hp;simp[hp]
 |x::K,p,hp=>by
  have ih:=YA c K
  rw[zO]at hp
  split at hp
  .rcases List.mem_cons.1 hp with rfl|hp
   .simp
   .exact Nat.le_succ_of_le (ih p hp)
  .split at hp
   .simp at hp;subst hp;simp
   .rename_i e
    rw[e]at ih
    rcases List.mem_cons.1 hp with rfl|hp
    .have:=ih _ List.mem_cons_self
     simp at this |-;omega
    .exact Nat.le_succ_of_le (ih p (List.mem_cons_of_mem _ hp))
theorem zls{n e:List UInt8}{x y:Int}(h:jw (zO 32 l)=some (n,x,y,e)):qd n≠none/\(0<=x/\x<=9999)/\(0<=y/\y<=9999)/\e.length<=l.length:=by
 have hc:=YA 32 l
 generalize zO 32 l=X at h hc
 unfold jw at h
 cases hw:qd (X.getD 0 [])with
 |none=>rw[hw]at h;cases h
 |some f=>
  obtain⟨a,b⟩:=f;rw[hw]at h;simp only at h;split at h;cases h;have c:∀v,(if 1<=a then zV (X.getD 1 [])else some 0)=some v->0<=v/\v<=9999:=λv hv=>by
   split at hv;exact bE hv;injection hv with hv;omega
  have d:∀v,(if 2<=a then zV (X.getD 2 [])else some 0)=some v->0<=v/\v<=9999:=λv hv=>by
   split at hv;exact bE hv;injection hv with hv;omega
  revert h c d;generalize(if 1<=a then zV (X.getD 1 [])else some 0)=p;generalize(if 2<=a then zV (X.getD 2 [])else some 0)=q;intro h c d;cases p with
  |none=>cases h
  |some m=>
   cases q with
   |none=>cases h
   |some r=>
    simp only[Option.some.injEq,Prod.mk.injEq]at h;obtain⟨g,i,j,k⟩:=h;refine⟨by rw[<-g,hw];simp,by rw[<-i];exact c _ rfl,by rw[<-j];exact d _ rfl,?_⟩;rw[<-k];split;exact zg0 hc _;exact Nat.zero_le _
def Told(Y w:World)(I:Value)(d H b:Nat)(u:Tv)(D:Did)(e:Ending)(E:World):Prop:=
 ∃a,e=.returned (.tuple #[.string (str a),zN D.flt])/\(D.flt=0->a=D.text)/\DTurn Y w E I d H b u D.st
theorem zb9{Y w:World}{I:Value}{d H D:Nat}{u:Tv}{s:Tt}(h:Ds Y w I d H D u s){K:Nat}(q:K<=1000000)(g:Few K s){n:List UInt8}(k:qd n≠none)(x y:Int)(p:0<=x/\x<=9999)(c:ByteArray)(m:c.size<=140737488351232):
  Calls Tryz.prog 51 #[.pointer (some ⟨d,0,none⟩),.agg #[.string (str n),.int .i64 x,.int .i64 y,.string c]] w λe E=>Told Y w I d H D u (zh n x y c s) e E:=by
 have j:Lk.qN x=true->xV (s.who x)=0:=λl=>by
  have i:EInv (s.who x):=by
   rcases wU l with rfl|rfl;exact h.tk.ia;exact h.tk.ib
  have:=g.who x;exact K6 i (by omega)
 rcases zug k with rfl|rfl|rfl|rfl|rfl|rfl|rfl|rfl|rfl;rw [show zh [99,111,109,101] x y c s=⟨okL,vT s x,ko s x⟩from rfl];exact(zca h x y c).mono λe E ⟨a,b⟩=>⟨okL,a,λ_=>rfl,b⟩;rw [show zh [99,111,117,110,116] x y c s=⟨zT s.ls.length,0,s⟩from rfl];exact(zcb h x y c).mono λe E ⟨a,b⟩=>⟨_,a,λ_=>rfl,b⟩;rw [show zh [108,111,115,101] x y c s=⟨okL,Lk.xU s.ls x,jf s x⟩from rfl];exact(zcc h x y c).mono λe E ⟨a,b⟩=>⟨okL,a,λ_=>rfl,b⟩
 rw [show zh [110,101,101,100] x y c s=⟨zT (U.need x y).toNat,if U.qb x y=true then 0 else 1,s⟩from rfl];cases f:U.qb x y with
 |true=>exact(zce h x y c f).mono λe E ⟨a,b⟩=>⟨_,a,λ_=>rfl,b⟩
 |false=>exact(zcd h x y c f).mono λe E ⟨a,b⟩=>⟨_,a,λe=>absurd (show(1:Int)=0 from e) (by decide),b⟩
 rw [show zh [114,101,97,100] x y c s=⟨jv (ve s x y),jY s x y,kD s x y⟩from rfl];exact(zcf h x y c).mono λe E ⟨a,b⟩=>⟨_,a,λ_=>rfl,b⟩;rw [show zh [115,101,110,100] x y c s=⟨okL,jH s x,xy s x⟩from rfl];exact(zcg h x y c j).mono λe E ⟨a,b⟩=>⟨okL,a,λ_=>rfl,b⟩;rw [show zh [116,119,105,99,101] x y c s=⟨okL,Lk.xk s.ls x,yS s x⟩from rfl];exact(zch h x y c).mono λe E ⟨a,b⟩=>⟨okL,a,λ_=>rfl,b⟩;rw [show zh [118,97,114,105,110,116] x y c s=⟨dec x,0,s⟩from rfl];exact(zci h x y c p).mono λe E ⟨a,b⟩=>⟨_,a,λ_=>rfl,b⟩
 rw [show zh [119,114,105,116,101] x y c s=⟨okL,kM s x c,kP s x c⟩from rfl];exact(zcj h x y c m).mono λe E ⟨a,b⟩=>⟨okL,a,λ_=>rfl,b⟩
theorem zf3(f:Int)(w:World):Cs 56 #[.int .i64 f] w (.string (str (qZ f))):=by
 by_cases a:f=0;.subst a;go_enter Tryz.func56,Tryz.ntmps56;go_wp2;go_ret;exact⟨rfl,rfl⟩
 by_cases b:f=1;.subst b;go_enter Tryz.func56,Tryz.ntmps56;go_wp2;go_ret;exact⟨rfl,rfl⟩
 by_cases c:f=2;.subst c;go_enter Tryz.func56,Tryz.ntmps56;go_wp2;go_ret;exact⟨rfl,rfl⟩
 by_cases d:f=3;.subst d;go_enter Tryz.func56,Tryz.ntmps56;go_wp2;go_ret;exact⟨rfl,rfl⟩
 by_cases g:f=4;.subst g;go_enter Tryz.func56,Tryz.ntmps56;go_wp2;go_ret;exact⟨rfl,rfl⟩
 by_cases h:f=5;.subst h;go_enter Tryz.func56,Tryz.ntmps56;go_wp2;go_ret;exact⟨rfl,rfl⟩
 by_cases i:f=6;.subst i;go_enter Tryz.func56,Tryz.ntmps56;go_wp2;go_ret;exact⟨rfl,rfl⟩
 by_cases j:f=7;.subst j;go_enter Tryz.func56,Tryz.ntmps56;go_wp2;go_ret;exact⟨rfl,rfl⟩
 by_cases k:f=8;.subst k;go_enter Tryz.func56,Tryz.ntmps56;go_wp2;go_ret;exact⟨rfl,rfl⟩
 have l:qZ f=[69,114,114,110,111]:=by simp[qZ,a,b,c,d,g,h,i,j,k]
 go_enter Tryz.func56,Tryz.ntmps56
 go_wp2;go_ret;exact⟨by rw[l];rfl,rfl⟩
end Rn
end Go.Proofs.YtdokgalidhmbbaaGreatDoor
namespace Go.Proofs.YtdokgalidhmbbaaGreatDoor
namespace Rn
open Go.RowKit
structure Hn(w:World)(bv:Value):Prop where
 hand:Handle w
 bad:∃p:Addr,bv=.iface 286 (.pointer (some p))/\w.cell? p=some (.string (str badL))
variable {w:World}
theorem Hn.below{E:World}{I:Value}(h:Hn w I)(a:Below w.heap.size w E):Hn E I:=by
 obtain⟨p,e,b⟩:=h.bad;exact⟨h.hand.below a,p,e,(a.cell (World.block_lt_of_cell? w p b)).trans b⟩
theorem zj9(x:Value)(w:World):(Go.method 466 286 x "Error").run Tryz.prog w=.ok (295,x) w:=by kernel_rfl
theorem zkk(f:Int)(w:World)(q:Handle w):Cl 37 #[.agg #[.iface 133 (.int .i64 f)]] w (.string (str (qZ f))):=by
 obtain⟨a,b⟩:∃a,(w.alloc (.cells #[.iface 133 (.int .i64 f)] 77)).alloc (.cells #[.int .i64 0] 133)=a:=⟨_,rfl⟩;have g:Below w.heap.size w a:=by rw[<-b];exact((Below.refl _ w).alloc (Nat.le_refl _) _).alloc (by simp) _
 have l:(w.alloc (.cells #[.iface 133 (.int .i64 f)] 77)).heap[w.heap.size]? =some (.cells #[.iface 133 (.int .i64 f)] 77):=vB _ _;have u:a.cell? ⟨w.heap.size,0,none⟩=some (.iface 133 (.int .i64 f)):=by
  rw[<-b,Lib.cell_of_heap ((Z4 _ _ (by simp)).trans l)];rfl
 have t:a.heap.size=w.heap.size+2:=by rw[<-b];simp
 have c:a.heap[w.heap.size+1]? =some (.cells #[.int .i64 0] 133):=by
  rw[<-b];have:=vB (w.alloc (.cells #[.iface 133 (.int .i64 f)] 77)) (.cells #[.int .i64 0] 133);simpa using this
 have j:a.cell? ⟨w.heap.size+1,0,none⟩=some (.int .i64 0):=by rw[Lib.cell_of_heap c];rfl
 have k:a.frozen? ⟨w.heap.size+1,0,none⟩=false:=Lib.frozen_of_heap c 0;have HA:=za9 f ⟨w.heap.size+1,0,none⟩ (.int .i64 0) a (q.below g) j k;have HE:Hid (∀i,Cs 56 #[.int .i64 f] i (.string (str (qZ f)))):=zf3 f;obtain⟨V,d⟩:∃V,((((a.alloc (.cells #[.pointer (some ⟨w.heap.size+1,0,none⟩)] 134)).alloc (.cells #[.pointer (some ⟨17,134,none⟩),.pointer (some ⟨a.heap.size,0,none⟩),.int .u64 150] 123)).alloc (.cells #[.pointer (some ⟨17,134,none⟩),.pointer (some ⟨a.heap.size,0,none⟩),.int .u64 150] 123)).alloc (.cells #[.iface 133 (.int .i64 f)] 77)).alloc (.cells #[.int .i64 f] 133)=V:=⟨_,rfl⟩
 rw[d]at HA;have h:Below a.heap.size a V:=by
  rw[<-d];exact(((((Below.refl _ a).alloc (Nat.le_refl _) _).alloc (by simp) _).alloc (by simp<;>omega) _).alloc (by simp<;>omega) _).alloc (by simp<;>omega) _
 have m:V.heap[w.heap.size+1]? =some (.cells #[.int .i64 0] 133):=(h.block _ (by omega)).trans c;have v:(V.setCell ⟨w.heap.size+1,0,none⟩ (.int .i64 f)).cell? ⟨w.heap.size+1,0,none⟩=some (.int .i64 f):=by
  have:(V.setCell ⟨w.heap.size+1,0,none⟩ (.int .i64 f)).heap[w.heap.size+1]? =some (.cells #[.int .i64 f] 133):=by simp[World.setCell,Array.getElem?_modify,m]
  rw[Lib.cell_of_heap this];rfl
 have r:Hid (Below w.heap.size w (V.setCell ⟨w.heap.size+1,0,none⟩ (.int .i64 f))):=(g.trans (h.mono g.size)).setCell (p:=⟨w.heap.size+1,0,none⟩) (Nat.le_succ _) _;clear d m c l h t j k;generalize str (qZ f)=x at HE |-;go_enter Tryz.func37,Tryz.ntmps37
 go_wp2_with (first|(go_at_call 36;refine HA.mono ?_;rintro e i ⟨rfl,rfl⟩;have n:=HE.out (V.setCell ⟨w.heap.size+1,0,none⟩ (.int .i64 f)))|(go_at_call 56;refine n.mono ?_;rintro e y ⟨rfl,s⟩;obtain rfl:=s));go_ret;exact⟨rfl,r.out⟩
theorem zf4(p:Addr)(w:World)(hp:w.cell? p=some (.string (str badL))):Cs 295 #[.pointer (some p)] w (.string (str badL)):=by
 obtain⟨b,o,q⟩:=p;generalize str badL=a at hp |-;go_enter Tryz.func295,Tryz.ntmps295
 go_wp2;go_ret;exact⟨rfl,rfl⟩
theorem zkj(p:Addr)(w:World)(n:Handle w)(i:w.cell? p=some (.string (str badL))):Cl 37 #[.agg #[.iface 286 (.pointer (some p))]] w (.string (str badL)):=by
 obtain⟨a,b⟩:∃a,(w.alloc (.cells #[.iface 286 (.pointer (some p))] 77)).alloc (.cells #[.int .i64 0] 133)=a:=⟨_,rfl⟩;have d:Below w.heap.size w a:=by rw[<-b];exact((Below.refl _ w).alloc (Nat.le_refl _) _).alloc (by simp) _
 have m:(w.alloc (.cells #[.iface 286 (.pointer (some p))] 77)).heap[w.heap.size]? =some (.cells #[.iface 286 (.pointer (some p))] 77):=vB _ _;have f:a.heap[w.heap.size]? =some (.cells #[.iface 286 (.pointer (some p))] 77):=by rw[<-b];exact(Z4 _ _ (by simp)).trans m
 have t:a.cell? ⟨w.heap.size,0,none⟩=some (.iface 286 (.pointer (some p))):=by rw[Lib.cell_of_heap f];rfl
 have s:a.heap.size=w.heap.size+2:=by rw[<-b];simp
 have h:a.heap[w.heap.size+1]? =some (.cells #[.int .i64 0] 133):=by
  rw[<-b];have:=vB (w.alloc (.cells #[.iface 286 (.pointer (some p))] 77)) (.cells #[.int .i64 0] 133);simpa using this
 have j:a.cell? ⟨w.heap.size+1,0,none⟩=some (.int .i64 0):=by rw[Lib.cell_of_heap h];rfl
 have k:a.frozen? ⟨w.heap.size+1,0,none⟩=false:=Lib.frozen_of_heap h 0;have HA:=za8 p ⟨w.heap.size+1,0,none⟩ (.int .i64 0) a (n.below d) j k;obtain⟨V,c⟩:∃V,(((a.alloc (.cells #[.pointer (some ⟨w.heap.size+1,0,none⟩)] 134)).alloc (.cells #[.pointer (some ⟨17,134,none⟩),.pointer (some ⟨a.heap.size,0,none⟩),.int .u64 150] 123)).alloc (.cells #[.pointer (some ⟨17,134,none⟩),.pointer (some ⟨a.heap.size,0,none⟩),.int .u64 150] 123)).alloc (.cells #[.iface 286 (.pointer (some p))] 77)=V:=⟨_,rfl⟩
 rw[c]at HA;have g:Below a.heap.size a V:=by
  rw[<-c];exact((((Below.refl _ a).alloc (Nat.le_refl _) _).alloc (by simp) _).alloc (by simp<;>omega) _).alloc (by simp<;>omega) _
 have u:V.cell? ⟨w.heap.size,0,none⟩=some (.iface 286 (.pointer (some p))):=by rw[Lib.cell_of_heap ((g.block _ (by omega)).trans f)];rfl
 have l:Hid (Below w.heap.size w V):=d.trans (g.mono d.size);have HE:=zf4 p V ((l.out.cell (World.block_lt_of_cell? w p i)).trans i);have v:=zj9;clear c h m f g s j k i;generalize str badL=x at HE |-;go_enter Tryz.func37,Tryz.ntmps37
 go_wp2_with (first|(go_at_call 36;refine HA.mono ?_;rintro e y ⟨rfl,q⟩;obtain rfl:=q.symm)|(go_at_call 295;refine HE.mono ?_;rintro e B ⟨rfl,r⟩;obtain rfl:=r.symm));go_ret;exact⟨rfl,l.out⟩
def Kq(I:Value)(x:List UInt8)(v:Value):Prop:=(v=I/\x=badL)\/∃f:Int,f≠0/\v=.iface 133 (.int .i64 f)/\x=qZ f
def obV(I:Value)(x:List UInt8)(e:Ending):Prop:=
 (∃v,Kq I x v/\e=.returned (.tuple #[.string emp,.iface 77 (.agg #[v])]))\/e=.returned (.tuple #[.string (str x),.nilIface])
theorem zjr{l:List UInt8}(s:Tt)(h:jw (zO 32 l)=none):zl l s=(badL,s):=by unfold zl;rw[h]
theorem zjs{l n a:List UInt8}{x y:Int}(s:Tt)(h:jw (zO 32 l)=some (n,x,y,a)):zl l s=((zh n x y (str a) s).ans,(zh n x y (str a) s).st):=by unfold zl;rw[h]
theorem zll{Y:World}{I:Value}{d H j:Nat}{u:Tv}{s:Tt}(h:Ds Y w I d H j u s){K:Nat}(A:K<=1000000)(i:Few K s)(l:List UInt8)(C:l.length<=3000):
  Calls Tryz.prog 35 #[.pointer (some ⟨d,0,none⟩),.string (str l)] w λe E=>obV I (zl l s).1 e/\DTurn Y w E I d H j u (zl l s).2:=by
 have HO:=zlt (str l) (by rw[qW];exact C) h.dk
 rw[zlr]at HO
 obtain⟨g,f,rfl⟩:=h.dk.env.isB
 cases ho:jw (zO 32 l)with
 |none=>
  rw[zjr s ho];rw[ho]at HO;simp only[Option.map_none,Kt,bB]at HO;have z:Hid (Kq (.iface g f) badL (.iface g f)):=.inl ⟨rfl,rfl⟩;have r:Hid (∀a,Below w.heap.size w a->DTurn Y w a (.iface g f) d H j u s):=λa=>h.same;clear h;go_enter Tryz.func35,Tryz.ntmps35
  go_wp2_with (go_at_call 50;refine HO.mono ?_;rintro e a ⟨rfl,b⟩);go_ret2
  refine⟨.inl ⟨_,z.out,rfl⟩,r.out _ (b.alloc b.size _)⟩
 |some o=>
  obtain⟨n,x,y,p⟩:=o;obtain⟨G,J,M,L⟩:=zls ho;rw[zjs s ho];rw[ho]at HO;simp only[Option.map_some,Kt,Ord.val]at HO;have HC:Hid (∀a,Below w.heap.size w a->Calls Tryz.prog 51 #[.pointer (some ⟨d,0,none⟩),.agg #[.string (str n),.int .i64 x,.int .i64 y,.string (str p)]] a λe E=>Told Y a (.iface g f) d H j u (zh n x y (str p) s) e E):=
   λa b=>zb9 (h.below b) A i G x y J (str p) (by rw[qW];omega)
  have r:Hid (∀a c k,Below w.heap.size w a->DTurn Y a c (.iface g f) d H j u k->DTurn Y w c (.iface g f) d H j u k):=λa c k b=>DTurn.pre b h;clear h i ho;generalize zh n x y (str p) s=D at HC |-;generalize str n=U at HO HC;generalize str p=V at HO HC;go_enter Tryz.func35,Tryz.ntmps35
  go_wp2_with (go_at_call 50;refine HO.mono ?_;rintro e a ⟨rfl,b⟩);have F:=b.alloc b.size (.cells #[.string U,.int .i64 x,.int .i64 y,.string V] 117);have q:=HC.out _ F;have t:Hid (∀c k,DTurn Y (a.alloc (.cells #[.string U,.int .i64 x,.int .i64 y,.string V] 117)) c (.iface g f) d H j u k->DTurn Y w c (.iface g f) d H j u k):=λc k=>r.out _ c k F;clear HC r b F HO;by_cases i:D.flt=0
  .refine q.mono ?_;rintro e c ⟨Q,rfl,v,m⟩;have B:Hid (D.ans=Q):=by show D.ans=Q;rw[Did.ans,if_pos i];exact(v i).symm
   have P:=t.out _ _ m;rw[i,jm];clear t q v m;go_wp2;go_ret2
   exact⟨.inr (by rw[B.out];rfl),P⟩
  refine q.mono ?_;rintro e c ⟨Q,rfl,v,m⟩;have B:Hid (Kq (.iface g f) D.ans (.iface 133 (.int .i64 D.flt))):=.inr ⟨D.flt,i,rfl,by rw[Did.ans,if_neg i]⟩;have P:=t.out _ _ m;rw[qj i];clear t q v m;go_wp2;go_ret2
  exact⟨.inl ⟨_,B.out,rfl⟩,P⟩
theorem za2{Y:World}{I:Value}{d H D:Nat}{u:Tv}{s:Tt}(h:Ds Y w I d H D u s)(U:Hn Y I){K:Nat}(M:K<=1000000)(A:Few K s)(l:List UInt8)(S:l.length<=3000):
  Calls Tryz.prog 14 #[.pointer (some ⟨d,0,none⟩),.string (str l)] w λe E=>e=.returned (.string (str (zl l s).1))/\DTurn Y w E I d H D u (zl l s).2:=by
 have HO:=zll h M A l S;have o:∀n c g,Ds Y n I d H D c g->Hn n I:=λn c g J=>U.below J.bel;clear h U A;generalize(zl l s).1=x at HO |-;generalize(zl l s).2=g at HO |-;go_enter Tryz.func14,Tryz.ntmps14
 go_wp2_with (go_at_call 35;refine HO.mono ?_);rintro e a ⟨R,c,i,B,y⟩;have hn:=o a c g i;rcases R with⟨v,F,rfl⟩|rfl
 .have W:v.oneCell'=true:=by
   rcases F with⟨rfl,_⟩|⟨f,_,rfl,_⟩;obtain ⟨p,rfl,_⟩:=hn.bad;rfl;.rfl
  obtain⟨b,r⟩:∃b,a.alloc (.cells #[.nilIface] 77)=b:=⟨_,rfl⟩;have j:Below a.heap.size a b:=by rw[<-r];exact(Below.refl _ a).alloc (Nat.le_refl _) _
  have Z:b.heap.size=a.heap.size+1:=by rw[<-r];simp
  have m:b.heap[a.heap.size]? =some (.cells #[.nilIface] 77):=by rw[<-r];exact vB _ _
  have P:b.cell? ⟨a.heap.size,0,none⟩=some .nilIface:=by rw[Lib.cell_of_heap m];rfl
  have Q:b.frozen? ⟨a.heap.size,0,none⟩=false:=Lib.frozen_of_heap m 0;have HA:=za7 v W ⟨a.heap.size,0,none⟩ .nilIface b (hn.below j).hand P Q;obtain⟨V,q⟩:∃V,(((b.alloc (.cells #[.pointer (some ⟨a.heap.size,0,none⟩)] 79)).alloc (.cells #[.pointer (some ⟨17,79,none⟩),.pointer (some ⟨b.heap.size,0,none⟩),.int .u64 150] 123)).alloc (.cells #[.pointer (some ⟨17,79,none⟩),.pointer (some ⟨b.heap.size,0,none⟩),.int .u64 150] 123)).alloc (.cells #[v] 77)=V:=⟨_,rfl⟩
  rw[q]at HA;have t:Below b.heap.size b V:=by
   rw[<-q];exact((((Below.refl _ b).alloc (Nat.le_refl _) _).alloc (by simp) _).alloc (by simp<;>omega) _).alloc (by simp<;>omega) _
  have C:V.heap[a.heap.size]? =some (.cells #[.nilIface] 77):=(t.block _ (by omega)).trans m;have cv:(V.setCell ⟨a.heap.size,0,none⟩ v).cell? ⟨a.heap.size,0,none⟩=some v:=by
   have:(V.setCell ⟨a.heap.size,0,none⟩ v).heap[a.heap.size]? =some (.cells #[v] 77):=by simp[World.setCell,Array.getElem?_modify,C]
   rw[Lib.cell_of_heap this];rfl
  have k:Below a.heap.size a (V.setCell ⟨a.heap.size,0,none⟩ v):=(j.trans (t.mono j.size)).setCell (p:=⟨a.heap.size,0,none⟩) (Nat.le_refl _) _;have hnf:=hn.below k;have G:Calls Tryz.prog 37 #[.agg #[v]] (V.setCell ⟨a.heap.size,0,none⟩ v) λe E=>e=.returned (.string (str x))/\Below (V.setCell ⟨a.heap.size,0,none⟩ v).heap.size (V.setCell ⟨a.heap.size,0,none⟩ v) E:=by
   rcases F with⟨rfl,rfl⟩|⟨f,_,rfl,rfl⟩;obtain ⟨p,rfl,T⟩:=hnf.bad;exact zkj p _ hnf.hand T;exact zkk f _ hnf.hand
  have L:Hid (∀E,Below (V.setCell ⟨a.heap.size,0,none⟩ v).heap.size (V.setCell ⟨a.heap.size,0,none⟩ v) E->DTurn Y w E I d H D u g):=λE N=>
   have z:=k.trans (N.mono k.size)
   ⟨c,i.below z,B.trans (Off.of_below z),y⟩
  clear q C m t Z P Q F j i B y hn o hnf k HO;go_wp2_with (first|(go_at_call 36;refine HA.mono ?_;rintro e n ⟨rfl,X⟩;obtain rfl:=X.symm)|(go_at_call 37;refine G.mono ?_;rintro e w3 ⟨rfl,O⟩));go_ret;exact⟨rfl,L.out _ O⟩
 .go_wp2
  go_ret
  exact⟨rfl,c,i.below ((Below.refl _ _).alloc (Nat.le_refl _) _),B.alloc _,y⟩
end Rn
end Go.Proofs.YtdokgalidhmbbaaGreatDoor
namespace Go.Proofs.YtdokgalidhmbbaaGreatDoor
namespace Rn
open Go.RowKit
theorem Wy(c:UInt8):∀(l:List UInt8) (m:Nat),(∀j,j<m->l[j]? ≠some c)->l[m]? =some c->zO c l=l.take m::zO c (l.drop (m+1))
 |[],m,_,h=>by simp at h
 |x::K,0,_,h=>by
  simp at h
  subst h
  rw[zO,if_pos rfl]
  rfl
 |x::K,m+1,a,h=>by
  have b:x≠c:=by have:=a 0 (by omega);simpa using this
  rw[zO,if_neg b,Wy c K m (λj d=>by have:=a (j+1) (by omega);simpa using this) (by simpa using h)]
  rfl
theorem Wz(c:UInt8):∀(l:List UInt8),(∀j:Nat,l[j]? ≠some c)->zO c l=[l]
 |[],_=>rfl
 |x::K,a=>by
  have b:x≠c:=by have:=a 0;simpa using this
  rw[zO,if_neg b,Wz c K (λj=>by have:=a (j+1);simpa using this)]
theorem Vm(s:ByteArray)(a b:Nat)(f:a<=b)(h:b<=s.size)(g:s.size<=9223372036854775807)(w:World):(Instr.slice 9 (.string s) (some (.int .i64 (a:Int))) (some (.int .i64 (b:Int))) none).run Tryz.prog w=.ok (.string (s.extract a b)) w:=by
 have c:(b:Int)<=(s.size:Int):=by omega
 have d:(a:Int)<=(b:Int):=by omega
 have e:=Tryz.underlying9;go_simp
theorem Vp(l:List UInt8)(a b:Nat):(str l).extract a b=str ((l.drop a).take (b-a)):=by
 have h:((str l).extract a b).data.toList=(str ((l.drop a).take (b-a))).data.toList:=by
  rw[qo,Lib.extract_data,qo]
 rw[<-kK ((str l).extract a b),h,kK]
theorem Qr{l:List UInt8}{k:Nat}(a:k<l.length)(c:UInt8):(Sx.zP (str l) k=(c.toNat:Int))↔l[k]? =some c:=by
 unfold Sx.zP;have e:(str l).data[k]? =some l[k]:=by
  rw[<-Array.getElem?_toList,qo];exact List.getElem?_eq_getElem a
 rw[e,List.getElem?_eq_getElem a];simp only[Option.getD_some,Option.some.injEq];constructor;intro h;exact UInt8.toNat_inj.1 (by omega);rintro rfl;rfl
def vals(X:List (List UInt8)):List Value:=X.map λp=>.string (str p)
theorem iK(a b:List (List UInt8)):vals (a++b)=vals a++vals b:=List.map_append
theorem jO(l:List UInt8)(c:UInt8)(S:l.length<=1000000)(w:World):
  Calls Tryz.prog 7 #[.string (str l),.int .u8 c.toNat] w λe E=>∃v,e=.returned v/\E.ownsRow w.heap.size 9 1 v (zO c l).length (vals (zO c l))/\Below w.heap.size w E:=by
 obtain⟨D,V,z,A,C⟩:=info_parts Yq;have Y:(str l).size=l.length:=qW l;have hix:Hid (∀k:Nat,k<l.length->∀W,(Instr.index 9 (.string (str l)) (.int .i64 (k:Int))).run Tryz.prog W=.ok (.int .u8 (Sx.zP (str l) k)) W):=λk q W=>Sx.jU (by omega) W;have hpc:Hid (∀f k:Nat,f<=k->k<=l.length->∀W,(Instr.slice 9 (.string (str l)) (some (.int .i64 (f:Int))) (some (.int .i64 (k:Int))) none).run Tryz.prog W=.ok (.string (str ((l.drop f).take (k-f)))) W):=λf k g F W=>by
  rw[Vm (str l) f k g (by omega) (by omega) W,Vp]
 have hpe:Hid (∀f:Nat,f<=l.length->∀W,(Instr.slice 9 (.string (str l)) (some (.int .i64 (f:Int))) none none).run Tryz.prog W=.ok (.string (str (l.drop f))) W):=λf g W=>by
  rw[gD (str l) f (by omega) (by omega) W,gT]
 have hbt:Hid (∀k:Nat,k<l.length->(Sx.zP (str l) k=(c.toNat:Int)↔l[k]? =some c)):=λk q=>Qr q c;generalize str l=s at*;generalize R:(c.toNat:Int)=H at*;go_enter Tryz.func7,Tryz.ntmps7
 go_wp2_with fail;go_loopw [5,6,7] (λv f i wr=>∃(k a:Nat) (X:List (List UInt8)),a<=k/\k<=l.length/\X.length<=k/\f=.int .i64 a/\i=.int .i64 k/\wr.ownsRow w.heap.size 9 1 v X.length (vals X)/\Hid (zO c l=X++zO c (l.drop a))/\Hid (∀j,a<=j->j<k->l[j]? ≠some c)/\Hid (Below w.heap.size w wr)) (λ_ _ i _=>l.length-(intOf i).toNat)
 case atStart=>exact⟨0,0,[],Nat.le_refl _,Nat.zero_le _,Nat.zero_le _,rfl,rfl,World.ownsRow_nil _ _ _ _,rfl,λj _ hj=>absurd hj (Nat.not_lt_zero _),Below.refl _ _⟩
 case round=>
  obtain⟨k,a,X,hfk,q,T,rfl,rfl,n,m,hno,b⟩:=hrel;by_cases o:k<l.length
  .have I:=hix.out k o;have p:=hbt.out k o;have N:(k:Int)<(s.size:Int):=by omega
   by_cases r:Sx.zP s k=H
   .have J:=hpc.out a k hfk q;have U:=p.1 r;have hCut:Hid (zO c l=(X++[(l.drop a).take (k-a)])++zO c (l.drop (k+1))):=by
     have:=Wy c (l.drop a) (k-a) (λj hj=>by rw[List.getElem?_drop];exact hno.out _ (by omega) (by omega)) (by rw[List.getElem?_drop,show a+(k-a)=k by omega];exact U);rw[List.drop_drop,show a+(k-a+1)=k+1 by omega]at this;show zO c l=_;rw[m.out,this];simp
    rw[r]at I;clear hix hpc hbt p U m hno hpe;generalize(l.drop a).take (k-a)=d at*;go_wp2_with (at_builtin;refine wpList_append_own _ rfl _ _ 23 rfl w.heap.size 9 D (.string ⟨#[]⟩) 1 16 Tryz.underlying23 V z A C rfl (by decide) _ _ _ rfl (n.alloc _) ⟨wr.heap.size,0,none⟩ 1 1 [.string (str d)] rfl rfl ?c1 ?c2 ?c3 ?c4 ?c5 ?_);case c1=>
     intro j u hj
     match j,hj with
     |0,hj=>simp at hj;subst hj;simp[Addr.add]
    case c2=>intro u hu;simp at hu;subst hu;rfl
    case c3=>unfold maxLen;omega
    case c4=>omega
    case c5=>have:=b.out.size;simp;omega
    intro G L y t _;go_wp2;go_roundw
    case rel=>
     have K:=b.out.size;refine⟨k+1,k+1,X++[d],Nat.le_refl _,by omega,by rw[List.length_append];simp;omega,by simp,by simp,?_,hCut,λj g F=>by omega,?_⟩;rw [List.length_append,iK];exact y;exact (b.out.alloc (by omega) _).grown t (by simp;omega) (λj hj=>(n.lt j hj).1)
    case measure=>simp[intOf];omega
   have hne:Hid (l[k]? ≠some c):=λh=>r (p.2 h);clear hix hpc hbt p hpe;generalize Sx.zP s k=M at*;go_wp2;go_roundw
   case rel=>
    exact⟨k+1,a,X,by omega,by omega,by omega,rfl,by simp,n,m,λj g F=>by
     by_cases e:j=k;subst e;exact hne.out;exact hno.out j g (by omega),b⟩
   case measure=>simp[intOf];omega
  obtain rfl:k=l.length:=by omega
  have O:¬(l.length:Int)<(s.size:Int):=by omega
  have J:=hpe.out a hfk;have hCut:Hid (zO c l=X++[l.drop a]):=by
   show zO c l=_;rw[m.out,Wz c (l.drop a) λj=>?_];rw[List.getElem?_drop];by_cases h:a+j<l.length;exact hno.out _ (by omega) h;rw [List.getElem?_eq_none (by omega)];simp
  clear hix hpc hbt m hno hpe;generalize l.drop a=d at*;have P:∀(j:Nat) (x:Value),[Value.string (str d)][j]? =some x->(wr.alloc (.cells #[.string (str d)] 9)).cell? ((⟨wr.heap.size,0,none⟩:Addr).add j)=some x:=by
   intro j x hj
   match j,hj with
   |0,hj=>simp at hj;subst hj;simp[Addr.add]
  have Q:∀x∈ [Value.string (str d)],x.oneCell'=true:=by intro x hx;simp at hx;subst hx;rfl
  have B:Hid _:=And.intro P Q;clear P Q;go_wp2_with (at_builtin;refine wpList_append_own _ rfl _ _ 23 rfl w.heap.size 9 D (.string ⟨#[]⟩) 1 16 Tryz.underlying23 V z A C rfl (by decide) _ _ _ rfl (n.alloc _) ⟨wr.heap.size,0,none⟩ 1 1 [.string (str d)] rfl rfl B.out.1 B.out.2 (by unfold maxLen;omega) (by omega) (by have:=b.out.size;simp;omega) ?_);intro G L y t _;go_wp2;go_ret;have K:=b.out.size;refine⟨G,rfl,?_,(b.out.alloc (by omega) _).grown t (by simp;omega) (λj hj=>(n.lt j hj).1)⟩
  rw[hCut.out,List.length_append,iK];exact y
end Rn
end Go.Proofs.YtdokgalidhmbbaaGreatDoor
namespace Go.Proofs.YtdokgalidhmbbaaGreatDoor
namespace Rn
open Go.RowKit
end Rn
end Go.Proofs.YtdokgalidhmbbaaGreatDoor
