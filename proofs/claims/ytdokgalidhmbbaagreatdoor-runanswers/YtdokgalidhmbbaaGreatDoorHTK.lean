/- What the law RunAnswers needs. -/
import Derived.Test.YtdokgalidhmbbaaGreatDoorRows
import Derived.Deep.RegionHeld3
import Derived.Below
set_option linter.unusedVariables false
set_option linter.unusedSimpArgs false
set_option maxRecDepth 100000
set_option maxHeartbeats 8000000
namespace Go.Proofs.YtdokgalidhmbbaaGreatDoor
theorem zC{p:Prop}(h:p):Go.RowKit.Hid p:=h
abbrev Cl(f:Nat)(a:Array Value)(w:World)(v:Value):Prop:=Calls Tryz.prog f a w λe w'=>e=.returned v/\Go.RowKit.Below w.heap.size w w'
abbrev Cs(f:Nat)(a:Array Value)(w:World)(v:Value):Prop:=Calls Tryz.prog f a w λe w'=>e=.returned v/\w'=w
theorem zI{P:Program}{md:Region.Mode}{ops:Array Oper}{Q:Exit->Act->World->Prop}{S:World->Prop}(i:Nat)(v:Value){d:Tmp}{op:Op}{t:TypeId}{p:String}{af:Array Edge}{g:Option (Nat×Bool)}{n:Nat}{l:Array Bool}{a:Act}{w:World}(hi:ops[i]? =some ⟨some d,op,t,p,af,g⟩)
  (h:(Region.noSelect ops && (Region.free md ops l i && (Region.ready md ops l).contains i))=true) (hw:Region.wanted ⟨some d,op,t,p,af,g⟩ (yielded ops a.tmps)=true) (hS:S w)
  (hy:∀w,S w->(execOp a.eval ⟨some d,op,t,p,af,g⟩).run P w=.ok (.value v) w) (k:wpAnyH P md ops (NoPanic Q) S n (l.setIfInBounds i true) (a.put (some d) v) w):wpAnyH P md ops (NoPanic Q) S (n+1) l a w:=by
 simp only[Bool.and_eq_true]at h;exact wpAnyH_take hi h.1 h.2.1 h.2.2 (λ_ _ _ h=>h) (Or.inl ⟨hw,hy⟩) hS k
theorem kv{P:Program}{md:Region.Mode}{ops:Array Oper}{Q:Exit->Act->World->Prop}{S:World->Prop}(i:Nat)(v:Value){d:Tmp}{op:Op}{t:TypeId}{p:String}{af:Array Edge}{g:Option (Nat×Bool)}{n:Nat}{l:Array Bool}{a:Act}{w:World}(hi:ops[i]? =some ⟨some d,op,t,p,af,g⟩)
  (h:(Region.noSelect ops && (Region.free md ops l i && (Region.ready md ops l).contains i))=true) (hQ:∀c a w,Q (.panic c) (a.put (some d) v) w->Q (.panic c) a w) (hw:Region.wanted ⟨some d,op,t,p,af,g⟩ (yielded ops a.tmps)=true) (hS:S w)
  (hy:∀w,S w->(execOp a.eval ⟨some d,op,t,p,af,g⟩).run P w=.ok (.value v) w) (k:wpAnyH P md ops Q S n (l.setIfInBounds i true) (a.put (some d) v) w):wpAnyH P md ops Q S (n+1) l a w:=by
 simp only[Bool.and_eq_true]at h;exact wpAnyH_take hi h.1 h.2.1 h.2.2 hQ (Or.inl ⟨hw,hy⟩) hS k
end Go.Proofs.YtdokgalidhmbbaaGreatDoor
