/- Short words for what the texts say often. -/
import Derived.Test.YtkbhbekfniadhaaGreatTk0
import Derived.Test.YtkbhbekfniadhaaGreatKSh8
import Derived.Test.YtkbhbekfniadhaaGreatKFnCo
namespace Go.Proofs.YtkbhbekfniadhaaGreat
open Go.ChangeShapes Go.WideShapes Go.ChangeAt Go.RowKit
set_option linter.unusedVariables false

section
variable {P:Program} {ops:Array Oper} {Q:Exit→Act→World→Prop} {md:Region.Mode} {S:World→Prop} {m:Nat}
theorem tkA (i:Nat)(oi:Oper)(v:Value){fuel:Nat}{li:Array Bool}{a:Act}{w:World}
  (hy:∀W,S W→(execOp a.eval oi).run P W=.ok (.value v) W) (h:wpAnyH P md ops Q S fuel (li.setIfInBounds i true) (a.put oi.dst v) w) (hi:ops[i]?=some oi:=by rfl)
  (hb:(Region.noSelect ops && (Region.free md ops li i && (Region.ready md ops li).contains i))=true:=by kernel_rfl) (hw:Region.wanted oi (yielded ops a.tmps)=true:=by rfl)
  (hQ:∀c a w,Q (.panic c) (a.put oi.dst v) w→Q (.panic c) a w:=by exact fun _ _ _ h=>h) (hS:S w:=by assumption):wpAnyH P md ops Q S (fuel+1) li a w:=by
 simp only[Bool.and_eq_true] at hb;exact wpAnyH_take hi hb.1 hb.2.1 hb.2.2 hQ (Or.inl ⟨hw,hy⟩) hS h
theorem tkM (i:Nat)(oi:Oper)(v:Value){fuel:Nat}{li:Array Bool}{a:Act}{w:World}
  (hy:∀W,S W→(execOp a.eval oi).run P W=.ok (.value v) W) (h:xQ P md ops Q m S fuel (li.setIfInBounds i true) (a.put oi.dst v) w) (hi:ops[i]?=some oi:=by rfl)
  (hb:(Region.noSelect ops && (Region.free md ops li i && ((Region.ready md ops li).contains i && jb md ops m i)))=true:=by kernel_rfl) (hw:Region.wanted oi (yielded ops a.tmps)=true:=by rfl)
  (hQ:∀c a w,Q (.panic c) (a.put oi.dst v) w→Q (.panic c) a w:=by exact fun _ _ _ h=>h) (hS:S w:=by assumption):xQ P md ops Q m S (fuel+1) li a w:=by
 simp only[Bool.and_eq_true] at hb;exact jk hi hb.1 hb.2.1 hb.2.2.1 hb.2.2.2 hQ (Or.inl ⟨hw,hy⟩) hS h
end
def Sl (a:Act)(n:Nat)(l:List (Nat × Value)):Prop:=a.tmps.size=n∧∀p∈l,a.eval (.tmp p.1)=p.2
theorem Sl.nil {a:Act}{n:Nat}(h:a.tmps.size=n):Sl a n []:=⟨h,fun _ h=>by cases h⟩
theorem Sl.add {a:Act}{n:Nat}{l:List (Nat × Value)}(h:Sl a n l){t:Nat}{v:Value}(e:a.eval (.tmp t)=v):Sl a n ((t,v)::l) :=
 ⟨h.1,fun p hp=>by
  rcases List.mem_cons.1 hp with rfl|hp
  ·exact e
  ·exact h.2 p hp⟩
theorem Sl.put {a a':Act}{n:Nat}{l:List (Nat × Value)}(h:Sl a n l)(d:Nat)(v:Value)(e:a.put (some d) v=a')(hf:l.all (fun p=>p.1 != d)=true)(hd:d<n):Sl a' n ((d,v)::l):=by
 subst e;refine⟨Y3.trans h.1,fun p hp=>?_⟩;rcases List.mem_cons.1 hp with rfl|hp
 ·exact put_eq (by rw[h.1];exact hd)
 ·have h1:=List.all_eq_true.1 hf p hp;exact(put_ne (fun e=>by rw[e] at h1;simp at h1)).trans (h.2 p hp)
theorem Sl.at {a:Act}{n:Nat}{l:List (Nat × Value)}(h:Sl a n l)(i:Nat){t:Nat}{v:Value}(hi:l[i]?=some (t,v)):a.eval (.tmp t)=v:=h.2 (t,v) (List.mem_of_getElem? hi)
end Go.Proofs.YtkbhbekfniadhaaGreat
