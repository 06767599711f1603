/- What the law RunAnswers needs. -/
import Derived.Test.YtdokgalidhmbbaaGreatDoorHTK
import Derived.Below
set_option linter.unusedVariables false
set_option linter.unusedSimpArgs false
set_option maxRecDepth 100000
set_option maxHeartbeats 8000000
namespace Go.Proofs.YtdokgalidhmbbaaGreatDoor
abbrev R:=Int×Int
def Mem(J:List R)(n:Int):Prop:=∃r,r∈J/\r.1<=n/\n<=r.2
def kW(r:R)(n:Int):Bool:=decide (r.1<=n) && decide (n<=r.2)
def xD(J:List R)(n:Int):Bool:=J.any λr=>kW r n
theorem Zc(n:Int):¬Mem [] n:=by rintro⟨r,h,_⟩;simp at h
theorem mem_cons(r:R)(b:List R)(n:Int):Mem (r::b) n↔(r.1<=n/\n<=r.2)\/Mem b n:=by
 constructor;rintro ⟨s,a,h⟩;rcases List.mem_cons.1 a with rfl|a;exact .inl h;exact .inr ⟨s,a,h⟩;rintro (h|⟨s,a,h⟩);exact ⟨r,List.mem_cons_self,h⟩;exact ⟨s,List.mem_cons_of_mem _ a,h⟩
theorem mem_append(a b:List R)(n:Int):Mem (a++b) n↔Mem a n\/Mem b n:=by
 constructor;rintro ⟨s,c,h⟩;rcases List.mem_append.1 c with c|c;exact .inl ⟨s,c,h⟩;exact .inr ⟨s,c,h⟩;rintro (⟨s,c,h⟩|⟨s,c,h⟩);exact ⟨s,List.mem_append.2 (.inl c),h⟩;exact ⟨s,List.mem_append.2 (.inr c),h⟩
theorem K9(r:R)(n:Int):Mem [r] n↔r.1<=n/\n<=r.2:=by
 rw[mem_cons];constructor;rintro (h|h);exact h;exact absurd h (Zc n);exact .inl
theorem zkc{a b:List R}(h:a.Perm b)(n:Int):Mem a n↔Mem b n:=by
 constructor;rintro ⟨s,c,x⟩;exact⟨s,h.mem_iff.1 c,x⟩;rintro ⟨s,c,x⟩;exact⟨s,h.mem_iff.2 c,x⟩
def jK:List R->Prop
 |[]=>True
 |r::a=>r.1<=r.2/\(∀s,s∈a->s.2+1<r.1)/\jK a
theorem kG:∀ {zs:List R},jK zs->∀r,r∈zs->r.1<=r.2
 |[],_,r,h=>by simp at h
 |a::zs,hn,r,h=>by
  rcases List.mem_cons.1 h with rfl|h
  .exact hn.1
  .exact kG hn.2.2 r h
theorem bD:∀ {a b:List R},jK a->jK b->(∀n,Mem a n↔Mem b n)->a=b
 |[],[],_,_,_=>rfl
 |[],s::g,_,hb,h=>absurd ((h s.2).2 ((mem_cons s g s.2).2 (.inl ⟨hb.1,Int.le_refl _⟩))) (Zc _)
 |r::f,[],d,_,h=>absurd ((h r.2).1 ((mem_cons r f r.2).2 (.inl ⟨d.1,Int.le_refl _⟩))) (Zc _)
 |r::f,s::g,d,hb,h=>by
  have j:∀n,Mem f n->n+1<r.1:=by
   rintro n ⟨x,k,c,e⟩;have:=d.2.1 x k;omega
  have ub:∀n,Mem g n->n+1<s.1:=by
   rintro n ⟨x,k,c,e⟩;have:=hb.2.1 x k;omega
  have m:r.2=s.2:=by
   have c:=(h r.2).1 ((mem_cons r f r.2).2 (.inl ⟨d.1,Int.le_refl _⟩))
   have e:=(h s.2).2 ((mem_cons s g s.2).2 (.inl ⟨hb.1,Int.le_refl _⟩))
   rcases(mem_cons _ _ _).1 c with c|c<;>rcases(mem_cons _ _ _).1 e with e|e
   .omega
   .have:=j _ e;have:=d.1;omega
   .have:=ub _ c;have:=hb.1;omega
   .have:=j _ e;have:=ub _ c;have:=d.1;have:=hb.1;omega
  have q:r.1=s.1:=by
   have t:=d.1
   have v:=hb.1
   rcases Int.lt_trichotomy r.1 s.1 with p|l|p
   .have c:=(h (s.1-1)).1 ((mem_cons r f _).2 (.inl ⟨by omega,by omega⟩))
    rcases(mem_cons _ _ _).1 c with c|c
    .omega
    .have:=ub _ c;omega
   .exact l
   .have c:=(h (r.1-1)).2 ((mem_cons s g _).2 (.inl ⟨by omega,by omega⟩))
    rcases(mem_cons _ _ _).1 c with c|c
    .omega
    .have:=j _ c;omega
  obtain rfl:r=s:=Prod.ext q m
  congr 1
  refine bD d.2.2 hb.2.2 λn=>?_
  have:=h n
  rw[mem_cons,mem_cons]at this
  constructor
  .intro i
   have u:=j n i
   rcases this.1 (.inr i)with x|x
   .omega
   .exact x
  .intro i
   have u:=ub n i
   rcases this.2 (.inr i)with x|x
   .omega
   .exact x
def xe(a:R):List R->List R
 |[]=>[a]
 |r::b=>if a.1<=r.2+1 then xe (min a.1 r.1,a.2) b else a::xe r b
def join:List R->List R
 |[]=>[]
 |r::a=>xe r a
def yV:List R->Prop
 |[]=>True
 |r::a=>(∀s,s∈a->s.2<=r.2)/\yV a
theorem Kc:∀(b:List R) (a:R),a.1<=a.2->(∀s,s∈b->s.1<=s.2/\s.2<=a.2)->yV b->jK (xe a b)/\(∀s,s∈xe a b->s.2<=a.2)
 |[],a,h,_,_=>⟨⟨h,λs hs=>by simp at hs,trivial⟩,λs hs=>by simp[xe]at hs;subst hs;exact Int.le_refl _⟩
 |r::b,a,h,c,d=>by
  have g:=c r List.mem_cons_self
  by_cases e:a.1<=r.2+1
  .rw [xe,if_pos e]
   refine Kc b (min a.1 r.1,a.2) ?_ ?_ d.2
   .show min a.1 r.1<=a.2;omega
   .exact λs hs=>c s (List.mem_cons_of_mem _ hs)
  .rw [xe,if_neg e]
   obtain⟨i,f⟩:=Kc b r g.1 (λs hs=>⟨(c s (List.mem_cons_of_mem _ hs)).1,d.1 s hs⟩) d.2
   refine⟨⟨h,λs hs=>?_,i⟩,λs hs=>?_⟩
   .have:=f s hs;omega
   .rcases List.mem_cons.1 hs with rfl|hs
    .exact Int.le_refl _
    .have:=f s hs;omega
theorem Kb:∀(b:List R) (a:R),(∀s,s∈b->s.1<=s.2/\s.2<=a.2)->yV b->∀n,Mem (xe a b) n↔(a.1<=n/\n<=a.2)\/Mem b n
 |[],a,_,_,n=>by rw[xe,K9];exact⟨.inl,λh=>h.resolve_right (Zc n)⟩
 |r::b,a,d,e,n=>by
  have g:=d r List.mem_cons_self
  by_cases f:a.1<=r.2+1
  .rw [xe,if_pos f,Kb b (min a.1 r.1,a.2) (λs c=>d s (List.mem_cons_of_mem _ c)) e.2 n,mem_cons]
   show(min a.1 r.1<=n/\n<=a.2)\/Mem b n↔_
   constructor
   .rintro (h|h)
    .by_cases x:a.1<=n
     .exact .inl ⟨x,h.2⟩
     .exact .inr (.inl ⟨by omega,by omega⟩)
    .exact .inr (.inr h)
   .rintro (h|h|h)
    .exact .inl ⟨by omega,h.2⟩
    .exact .inl ⟨by omega,by omega⟩
    .exact .inr h
  .rw [xe,if_neg f,mem_cons,mem_cons,Kb b r (λs c=>⟨(d s (List.mem_cons_of_mem _ c)).1,e.1 s c⟩) e.2 n]
theorem zik(s:List R)(a:∀r,r∈s->r.1<=r.2)(b:yV s):jK (join s):=by
 match s,a,b with
 |[],_,_=>exact trivial
 |r::d,a,b=>exact(Kc d r (a r List.mem_cons_self) (λx c=>⟨a x (List.mem_cons_of_mem _ c),b.1 x c⟩) b.2).1
theorem zij(s:List R)(b:∀r,r∈s->r.1<=r.2)(a:yV s)(n:Int):Mem (join s) n↔Mem s n:=by
 match s,b,a with
 |[],_,_=>exact Iff.rfl
 |r::d,b,a=>rw[join,Kb d r (λx c=>⟨b x (List.mem_cons_of_mem _ c),a.1 x c⟩) a.2,mem_cons]
theorem Ka:∀(b:List R) (a:R),(xe a b).length<=b.length+1
 |[],a=>by simp[xe]
 |r::b,a=>by
  rw[xe];split
  .have:=Ka b (min a.1 r.1,a.2);simp;omega
  .have:=Ka b r;simp;omega
theorem join_length(s:List R):(join s).length<=s.length:=by
 match s with
 |[]=>simp[join]
 |r::a=>have:=Ka a r;simp[join];omega
def qC(n:Int):Bool:=decide (0<=n) && decide (n<=1073741823)
def qI:Option Int->List R->Int
 |_,[]=>0
 |p,r::a=>if qC r.1=false\/qC r.2=false then 1 else if r.2<r.1\/(∃q,p=some q/\q<=r.2+1)then 3 else qI (some r.1) a
def xC(J:List R):Int:=if 12<J.length then 4 else qI none J
def Good(J:List R):Prop:=J.length<=12/\(∀r,r∈J->0<=r.1/\r.2<=1073741823)/\jK J
theorem wC(n:Int):qC n=true↔0<=n/\n<=1073741823:=by simp[qC]
theorem X4(n:Int):qC n=false↔¬(0<=n/\n<=1073741823):=by rw[<-wC];simp
theorem Wo:∀(J:List R) (p:Option Int),qI p J=0↔(∀r,r∈J->0<=r.1/\r.2<=1073741823)/\jK J/\(∀q,p=some q->∀s,s∈J->s.2+1<q)
 |[],p=>by simp[qI,jK]
 |r::k,p=>by
  rw[qI]
  by_cases f:qC r.1=false\/qC r.2=false
  .rw [if_pos f]
   refine⟨λh=>absurd h (by decide),λ⟨g,d,_⟩=>?_⟩
   exfalso
   have a:=g r List.mem_cons_self
   have b:=d.1
   rcases f with f|f<;>rw[X4]at f<;>omega
  .rw [if_neg f]
   have k1:qC r.1=true:=by cases x:qC r.1<;>simp_all
   have k2:qC r.2=true:=by cases x:qC r.2<;>simp_all
   rw[wC]at k1 k2
   by_cases e:r.2<r.1\/(∃q,p=some q/\q<=r.2+1)
   .rw [if_pos e]
    refine⟨λh=>absurd h (by decide),λ⟨g,d,hq⟩=>?_⟩
    exfalso
    rcases e with e|⟨q,rfl,e⟩
    .have:=d.1;omega
    .have:=hq q rfl r List.mem_cons_self;omega
   .rw [if_neg e,Wo k (some r.1)]
    have j:r.1<=r.2:=by have:¬r.2<r.1:=λx=>e (.inl x);omega
    constructor
    .rintro ⟨g,d,hq⟩
     refine⟨λs c=>?_,⟨j,hq r.1 rfl,d⟩,λq i s c=>?_⟩
     .rcases List.mem_cons.1 c with rfl|c
      .exact ⟨k1.1,k2.2⟩
      .exact g s c
     .have l:¬q<=r.2+1:=λx=>e (.inr ⟨q,i,x⟩)
      rcases List.mem_cons.1 c with rfl|c
      .omega
      .have:=hq r.1 rfl s c;omega
    .rintro ⟨g,d,hq⟩
     exact⟨λs c=>g s (List.mem_cons_of_mem _ c),d.2.2,λq i s c=>by cases i;exact d.2.1 s c⟩
theorem x9(J:List R):xC J=0↔Good J:=by
 unfold xC Good;by_cases h:12<J.length;rw [if_pos h];exact⟨λx=>absurd x (by decide),λx=>by omega⟩;rw [if_neg h,Wo];exact⟨λ⟨a,b,_⟩=>⟨by omega,a,b⟩,λ⟨_,a,b⟩=>⟨a,b,λq c=>by cases c⟩⟩
end Go.Proofs.YtdokgalidhmbbaaGreatDoor
