/- What the law RunAnswers needs. -/
import Derived.Test.YtdokgalidhmbbaaGreatDoorHDE
import Derived.Test.YtdokgalidhmbbaaGreatDoorHWX
set_option linter.unusedVariables false
set_option linter.unusedSimpArgs false
set_option maxRecDepth 100000
set_option maxHeartbeats 8000000
namespace Go.Proofs.YtdokgalidhmbbaaGreatDoor
namespace Rn
open Go.RowKit
theorem Jt(f:Int)(a:0<=f)(b:f<9)(w:World):Cl 21 #[.int .i64 f] w (.string (str (if f=0 then okL else qZ f))):=by
 obtain⟨n,rfl⟩:∃n:Nat,f=n:=⟨f.toNat,by omega⟩;exact zef n (by omega) w
theorem Ju(f:Int)(a:0<=f)(b:f<9)(w:World):Cl 20 #[.int .i64 f] w (.string (str (qZ f))):=by
 obtain⟨n,rfl⟩:∃n:Nat,f=n:=⟨f.toNat,by omega⟩;exact fE n (by omega) w
variable {w:World}{B:Nat}{v:Value}{x:Int}
theorem wo{xs:List Int}(h:w.ownsRow B 3 1 v (x::xs).length ((x::xs).map (Value.int .i64))):∃g a,v=.slice (some ⟨g,0,none⟩) (x::xs).length a/\∀(j:Nat) p,(x::xs)[j]? =some p->w.cell? ⟨g,j,none⟩=some (.int .i64 p):=by
 rcases h.2 with⟨_,e⟩|⟨g,a,f,rfl,_,b,i,_,_,d⟩;simp at e;refine ⟨g,a,rfl,λj p c=>?_⟩;rw[Lib.cell_of_heap b];have h1:((x::xs).map (Value.int .i64))[j]? =some (.int .i64 p):=by rw[List.getElem?_map,c];rfl
 rw[<-d,Nat.mul_one,List.getElem?_take]at h1;split at h1;rw [<-Array.getElem?_toList];exact h1;cases h1
theorem ja:(Tryz.prog.info? 3).map (λi=>(i.zero,i.size,i.bytes))=some (some (.int .i64 0),1,8):=by kernel_rfl
theorem kY{l:List UInt8}(h:zV l=some x)(a:l.length<=3000)(w:World):Cs 19 #[.string (str l)] w (.tuple #[.int .i64 x,.bool true]):=by
 have:=bH l a w;rw[h]at this;exact this
theorem Xj{l:List UInt8}(h:zV l=none)(a:l.length<=3000)(w:World):Cs 19 #[.string (str l)] w (.tuple #[.int .i64 0,.bool false]):=by
 have:=bH l a w;rw[h]at this;exact this
theorem Qi{b c:List UInt8}(h:w.ownsRow B 9 1 v [b,c].length (vals [b,c])):∃g a,v=.slice (some ⟨g,0,none⟩) 2 a/\w.cell? ⟨g,0,none⟩=some (.string (str b))/\w.cell? ⟨g,1,none⟩=some (.string (str c))/\B<=g/\g<w.heap.size:=by
 have h':=h;obtain⟨g,a,rfl,d⟩:=Zq h (by simp);exact⟨g,a,rfl,d 0 _ rfl,d 1 _ rfl,(h'.lt g rfl).1,(h'.lt g rfl).2⟩
theorem kZ(W:World)(x:Int):∀(j:Nat) (u:Value),[Value.int .i64 x][j]? =some u->(W.alloc (.cells #[.int .i64 x] 3)).cell? ((⟨W.heap.size,0,none⟩:Addr).add j)=some u:=by
 intro j u hj
 match j,hj with
 |0,hj=>simp at hj;subst hj;simp[Addr.add]
theorem one_one(x:Int):∀u∈ [Value.int .i64 x],u.oneCell'=true:=by intro u hu;simp at hu;subst hu;rfl
theorem vz{W a:World}{b:Option Nat}(h:(W.alloc (.cells #[.int .i64 x] 3)).grownBy a b)(c:∀k,b=some k->W.heap.size<=k):Below W.heap.size W a:=
 ((Below.refl _ W).alloc (Nat.le_refl _) _).grown h (by simp) c
theorem XU{W b c:World}{y:Int}{n:Nat}{xs:List Value}(h:b.ownsRow W.heap.size 3 1 v n xs)(a:Below W.heap.size W b)(d:(b.alloc (.cells #[.int .i64 y] 3)).grownBy c v.ownBlock):Below W.heap.size W c:=
 (a.alloc a.size _).grown d (by have:=a.size;simp;omega) λk e=>(h.lt k e).1
theorem X9{e g:World}{D L a:Nat}{d:Dv}{m c:Tt}(h:DTk w B D L a d m)(b:Below w.heap.size w e)(l:DTTurn e g B D L a d c):DTTurn w g B D L a d c:=by
 obtain⟨i,o,f,k⟩:=l;exact DTTurn.trans (h.below b) (Off.of_below b) (λ_ j=>.inl j) ⟨i,o,f,k⟩
theorem one_cell{b:List UInt8}(h:w.ownsRow B 9 1 v [b].length (vals [b])):∃g a,v=.slice (some ⟨g,0,none⟩) 1 a/\w.cell? ⟨g,0,none⟩=some (.string (str b))/\B<=g/\g<w.heap.size:=by
 have h':=h;obtain⟨g,a,rfl,c⟩:=Zq h (by simp);exact⟨g,a,rfl,c 0 _ rfl,(h'.lt g rfl).1,(h'.lt g rfl).2⟩
theorem Zp{n g a:Nat}{K:List Value}(h:w.ownsRow B 9 1 (.slice (some ⟨g,0,none⟩) n a) n K):n<=a:=by
 rcases h.2 with⟨e,_⟩|⟨f,c,d,e,_,i,b,hc,_,_⟩;cases e;cases e;first|exact b|exact hc|omega
theorem yA{c d e:List UInt8}(h:w.ownsRow B 9 1 v [c,d,e].length (vals [c,d,e])):∃g a,v=.slice (some ⟨g,0,none⟩) 3 a/\w.cell? ⟨g,0,none⟩=some (.string (str c))/\w.cell? ⟨g,1,none⟩=some (.string (str d))/\w.cell? ⟨g,2,none⟩=some (.string (str e))/\B<=g/\g<w.heap.size:=by
 have h':=h;obtain⟨g,a,rfl,b⟩:=Zq h (by simp);exact⟨g,a,rfl,b 0 _ rfl,b 1 _ rfl,b 2 _ rfl,(h'.lt g rfl).1,(h'.lt g rfl).2⟩
theorem zfu(b:ByteArray):b.toList.isEmpty=decide (b.size=0):=by
 have e:b.size=b.data.toList.length:=Lib.size_eq b;rw[ByteArray.toList_eq,e];cases b.data.toList<;>simp
end Rn
end Go.Proofs.YtdokgalidhmbbaaGreatDoor
