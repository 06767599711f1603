/- Proved: for every string the law RunAnswers returns true: what Run answers to a text is what the document's session answers to its lines, one behind the other, and a text of more than 3000 bytes is answered as too long; the package-level variables that the row lists start as the program's text, and the library's, lays them (the card ties that). -/
import Derived.Test.YtdokgalidhmbbaaGreatDoorHYI
import Derived.Test.YtdokgalidhmbbaaGreatDoorHXL
import Derived.Lib.SmallJoins
import Derived.Deep.SlicePairs
set_option linter.unusedVariables false
set_option linter.unusedSimpArgs false
set_option maxRecDepth 100000
set_option maxHeartbeats 8000000
namespace Go.Proofs.YtdokgalidhmbbaaGreatDoor
open Go.ChangeShapes Go.WideShapes Go.ChangeAt Go.RowKit
open Go.ChangeMaps (open_string shut_string)
theorem zqw(d:Os)(F:d.Started)(H:Type)(c:TypeId×Value->H):
  ReturnsInHanded {} Tryz.checked d 3 .any (λw a=>(Rows.runAnswersSpec.pre c Tryz.prog Tryz.f3 [] false w a/\laidMetH Tryz.prog Rn.Z8 w)/\sizedMet c Tryz.prog Tryz.f3 (OpenSpec.ofChange Rows.runAnswersSpec) false w a)
   (Rows.runAnswersSpec.post c Tryz.prog Tryz.f3 false true false false):=by
 refine Rn.zpc (X:=λw _=>laidMetH Tryz.prog Rn.Z8 w) (λ_ _ _ u h=>h.of_heap u) own F (by kernel_rfl) Tryz.func3
  (ChangeSpec.witness_shaped (enc:=c) (C:=Tryz.checked) (os:=d) (X:=λw _=>laidMetH Tryz.prog Rn.Z8 w) false ((World.doorLaid Tryz.prog 111 d).layVars Tryz.prog Rn.X6) #[.string ByteArray.empty] 8 (World.layVars_os _ _ _) (World.shaped_of_ZipB (by kernel_rfl) (by kernel_rfl)) (by kernel_rfl) (by kernel_rfl) (by kernel_rfl) (Rn.zuw d _)) ?_
 intro W T a k o Q hval0 f hsz n x;have hval:∀(j:Nat) t v,Tryz.f3.params[j]? =some t->a[j]? =some v->Value.okWide Tryz.prog W .any T t v:=hval0;have hW':=f;obtain⟨p,q,hA0,r,rfl,A,D⟩:=f;have hA:DataW.TrodAll c Tryz.prog W 0 (λ_=>true) true Tryz.f3.params.toList a.toList k p:=hA0;rw[Tryz.params3]at hA hval;obtain⟨g,K,U,V,G,J,z,rfl,rfl,l,B⟩:=trodAll_cons hA;obtain⟨rfl,rfl,rfl⟩:=trodAll_nil B;obtain rfl:a=#[g]:=by cases a;simp_all
 obtain⟨rfl,rfl⟩:=trodVars_none r;obtain⟨b,rfl,rfl,rfl,Y⟩:=open_string Tryz.underlying9 (hval 0 9 g rfl rfl) l;have E:=sized_string hsz (j:=0) (t:=9) (bytes:=b.data.toList) (by rw[Tryz.params3];rfl) rfl;have y:b.size<=140737488355328:=by
  have e:b.data.toList.length=b.size:=by simp
  have h:reachBytes=140737488351232:=rfl;omega
 obtain⟨I,m⟩:=Rn.zaw n x;clear hA0 hval0;refine(Rn.za4 b y m).mono λe P ⟨s,i⟩=>?_;subst s;exact⟨_,rfl,_,_,_,[],_,[],hW',trodAll_mk1 (shut_bool Tryz.underlying4 _),trodAll_mk1 (shut_string Tryz.underlying9 Y),rfl,i.frame _,λh=>by cases h⟩
theorem zqv:Rows.RunAnswersSaid:=
 OpenClaim.holds_of_wide 3 Tryz.f3 rfl rfl rfl rfl rfl rfl rfl ⟨rfl,rfl,rfl,rfl,rfl⟩ rfl rfl rfl rfl rfl (by kernel_rfl) Tryz.func3 (by kernel_rfl)
  (of_decide_eq_true (by kernel_rfl)) (by unfold Func.isWrapper;first|(rw[if_pos (by decide+kernel)];kernel_rfl)|(rw[if_neg (by decide+kernel)];exact⟨rfl,rfl⟩))
  (λb c H a _=>zqw b c H a)
theorem runAnswers_card:Rows.RunAnswersCardSaid:=
 Claim7.holds_tied_plain_at .later [] [.data,.data,.data,.data,.handle,.sentinel,.sentinel,.data,.data,.sentinel,.pinned] true (true, "2d10f7b2e1d4fe22a3d3edf34696f68962d94d61ea04abd7830725f487adb531") true
  zqv (λ_ h=>by cases h) (by kernel_rfl) (λ_ h=>by cases h) runAnswers_row_tie rfl ⟨rfl,rfl⟩ (by kernel_rfl) rfl
  (λf a c hfn=>by
   obtain rfl:f=3:=Option.some.inj ((show Tryz.prog.funcNamed "wanderwire/wirelaw3.RunAnswers" =some 3 by kernel_rfl).symm.trans c) |>.symm
   obtain rfl:a=Tryz.f3:=(Option.some.inj (Tryz.func3.symm.trans hfn)).symm
   exact⟨by kernel_rfl,λj t ht=>by
    rw[Tryz.params3]at ht
    have d:t∈ [9]:=by simpa using Array.mem_of_getElem? ht
    have b:([9].all λu=> !Tryz.prog.wantsStandIn u)=true:=by kernel_rfl
    exact(show Tryz.prog.wantsStandIn t=false by simpa using List.all_eq_true.1 b t d)⟩)
  (by kernel_rfl)
#print axioms runAnswers_card
end Go.Proofs.YtdokgalidhmbbaaGreatDoor
