/- A program is marked: only its own cells turn, numbers into numbers. Marking a program turns its own numbers alone. Lists of the call's own beside a program that is marked. -/
import Derived.Test.YtfnilamkapabkaaGreatDoorKTo
import Derived.Test.YtfnilamkapabkaaGreatDoorKIns
import Derived.Test.YtfnilamkapabkaaGreatDoorKSeq
namespace Go.Proofs.YtfnilamkapabkaaGreatDoor
open Go.ChangeShapes Go.WideShapes Go.ChangeAt Go.RowKit
set_option linter.unusedVariables false
structure Turns (lo hi:Nat)(w w':World):Prop where
 bel:Below lo w w'
 size:w'.heap.size=w.heap.size
 above:∀k,hi≤k→w'.heap[k]? = w.heap[k]?
 num:∀p z,w.cell? p=some (.int .i64 z)→∃z',w'.cell? p=some (.int .i64 z')
 list:∀p a n c,w.cell? p=some (.slice a n c)→w'.cell? p=some (.slice a n c)
 fz:FZ w w'
theorem Turns.refl (lo hi:Nat)(w:World):Turns lo hi w w:=⟨Below.refl _ _,rfl,fun _ _=>rfl,fun _ z h=>⟨z,h⟩,fun _ _ _ _ h=>h,FZ.refl _⟩
theorem Turns.trans {lo hi:Nat}{a b c:World}(h:Turns lo hi a b)(k:Turns lo hi b c):Turns lo hi a c :=
 ⟨h.bel.trans k.bel,k.size.trans h.size,fun i hi'=>(k.above i hi').trans (h.above i hi'),fun p z hz=>by obtain⟨z',hz'⟩:=h.num p z hz;exact k.num p z' hz',fun p x n y hl=>k.list p x n y (h.list p x n y hl),h.fz.trans k.fz⟩
theorem Turns.put {lo hi:Nat}{a w:World}(h:Turns lo hi a w){b o:Nat}{z:Int}(hc:w.cell? ⟨b,o,none⟩=some (.int .i64 z))(h1:lo≤b)(h2:b<hi)(x:Int):Turns lo hi a (w.setCell ⟨b,o,none⟩ (.int .i64 x)):=by
 refine h.trans ⟨(Below.refl lo w).setCell (p:=⟨b,o,none⟩) h1 _,by simp[World.setCell],fun k hk=>Below.heap_setCell _ _ _ _ (by show k≠b;omega),fun p z' hz=>?_,fun p a' n c hl=>?_,(FZ.refl w).put _ _⟩
 ·by_cases e:p=⟨b,o,none⟩
  ·subst e
   exact⟨x,World.cell?_setCell_same _ _ _ hc⟩
  ·exact⟨z',by rw[World.cell?_setCell_other _ _ _ _ (fun e'=>e e'.symm)];exact hz⟩
 ·by_cases e:p=⟨b,o,none⟩
  ·subst e
   rw[hc] at hl
   cases hl
  ·rw[World.cell?_setCell_other _ _ _ _ (fun e'=>e e'.symm)]
   exact hl
def MarkAt (lo hi k:Nat)(E:World→Nat→Nat→Prop)(w:World)(v:Value)(n:Nat):Prop :=
 ∃(a:Option Addr) (cap:Nat),v = .slice a n cap∧(0<n→∃b off,a=some ⟨b,off,none⟩∧lo≤b∧b<hi∧∀i,i<n→E w b (off+i*k))
theorem MarkAt.keep {lo hi k:Nat}{E:World→Nat→Nat→Prop}{w w':World}{v:Value}{n:Nat}(h:MarkAt lo hi k E w v n)(hE:∀b o,E w b o→E w' b o):MarkAt lo hi k E w' v n:=by
 obtain⟨a,cap,rfl,hc⟩:=h
 refine⟨a,cap,rfl,fun hp=>?_⟩
 obtain⟨b,off,rfl,h1,h2,hd⟩:=hc hp
 exact⟨b,off,rfl,h1,h2,fun i hi=>hE _ _ (hd i hi)⟩
def NumAt (w:World)(b o:Nat):Prop := ∃z,w.cell? ⟨b,o,none⟩=some (.int .i64 z)
theorem NumAt.turn {lo hi:Nat}{w w':World}(h:Turns lo hi w w'){b o:Nat}(hn:NumAt w b o):NumAt w' b o:=by
 obtain⟨z,hz⟩:=hn
 exact h.num _ z hz
def ArmM (w:World)(b o:Nat):Prop:=NumAt w b o∧NumAt w b (o+1)
def InsM (w:World)(b o:Nat):Prop:=NumAt w b o∧NumAt w b (o+1)∧NumAt w b (o+2)∧NumAt w b (o+3)∧NumAt w b (o+4)
def PhiM (lo hi:Nat)(w:World)(b o:Nat):Prop:=NumAt w b o∧∃v n,n≤1048576∧w.cell? ⟨b,o+1,none⟩=some v∧MarkAt lo hi 2 ArmM w v n
def BlockM (lo hi:Nat)(w:World)(b o:Nat):Prop :=
 ∃pv pn lv ln,pn≤1048576∧ln≤1048576∧w.cell? ⟨b,o,none⟩=some pv∧w.cell? ⟨b,o+1,none⟩=some lv∧NumAt w b (o+2)∧NumAt w b (o+3)∧NumAt w b (o+4)∧NumAt w b (o+5) ∧
  MarkAt lo hi 2 (PhiM lo hi) w pv pn∧MarkAt lo hi 5 InsM w lv ln
theorem MarkAt.isSlice {lo hi k:Nat}{E:World→Nat→Nat→Prop}{w:World}{v:Value}{n:Nat}(h:MarkAt lo hi k E w v n):∃a cap,v = .slice a n cap:=by
 obtain⟨a,cap,rfl,_⟩:=h
 exact⟨a,cap,rfl⟩
theorem ArmM.turn {lo hi:Nat}{w w':World}(h:Turns lo hi w w'){b o:Nat}(hn:ArmM w b o):ArmM w' b o:=⟨hn.1.turn h,hn.2.turn h⟩
theorem InsM.turn {lo hi:Nat}{w w':World}(h:Turns lo hi w w'){b o:Nat}(hn:InsM w b o):InsM w' b o:=⟨hn.1.turn h,hn.2.1.turn h,hn.2.2.1.turn h,hn.2.2.2.1.turn h,hn.2.2.2.2.turn h⟩
theorem PhiM.turn {lo hi:Nat}{w w':World}(h:Turns lo hi w w'){b o:Nat}(hn:PhiM lo hi w b o):PhiM lo hi w' b o:=by
 obtain⟨h1,v,n,hn2,hv,hm⟩:=hn
 obtain⟨a,cap,rfl⟩:=hm.isSlice
 exact⟨h1.turn h,_,n,hn2,h.list _ _ _ _ hv,hm.keep fun _ _ hx=>hx.turn h⟩
theorem BlockM.turn {lo hi:Nat}{w w':World}(h:Turns lo hi w w'){b o:Nat}(hn:BlockM lo hi w b o):BlockM lo hi w' b o:=by
 obtain⟨pv,pn,lv,ln,s1,s2,c0,c1,n2,n3,n4,n5,m1,m2⟩:=hn
 obtain⟨a,cap,rfl⟩:=m1.isSlice
 obtain⟨a2,cap2,rfl⟩:=m2.isSlice
 exact⟨_,pn,_,ln,s1,s2,h.list _ _ _ _ c0,h.list _ _ _ _ c1,n2.turn h,n3.turn h,n4.turn h,n5.turn h,m1.keep fun _ _ hx=>hx.turn h,m2.keep fun _ _ hx=>hx.turn h⟩
theorem ListAt.markAt {α:Type}{lo k:Nat}{E:World→Nat→Nat→α→Prop}{M:World→Nat→Nat→Prop}{w:World}{v:Value}{l:List α}(h:ListAt lo k E w v l)(hb:∀b o x,E w b o x→b<w.heap.size)(hE:∀b o x,x∈l→E w b o x→M w b o):MarkAt lo w.heap.size k M w v l.length:=by
 obtain⟨a,cap,rfl,hm,hc⟩:=h
 refine⟨a,cap,rfl,fun hp=>?_⟩
 obtain⟨b,off,rfl,h1,hd⟩:=hc hp
 refine⟨b,off,rfl,h1,hb b _ _ (hd 0 _ (List.getElem?_eq_getElem hp)),fun i hi=>hE _ _ _ (List.getElem_mem hi) (hd i _ (List.getElem?_eq_getElem hi))⟩
theorem ArmAt.lt {w:World}{b o:Nat}{x:ArmD}(h:ArmAt w b o x):b<w.heap.size:=World.block_lt_of_cell? w _ h.1
theorem InsAt.lt {w:World}{b o:Nat}{x:InsD}(h:InsAt w b o x):b<w.heap.size:=World.block_lt_of_cell? w _ h.1
theorem PhiAt.lt {lo:Nat}{w:World}{b o:Nat}{x:PhiD}(h:PhiAt lo w b o x):b<w.heap.size:=World.block_lt_of_cell? w _ h.1
theorem BlockAt.lt {lo:Nat}{w:World}{b o:Nat}{x:BlockD}(h:BlockAt lo w b o x):b<w.heap.size:=by
 obtain⟨_,_,h1,_⟩:=h
 exact World.block_lt_of_cell? w _ h1
theorem ArmAt.m {w:World}{b o:Nat}{x:ArmD}(h:ArmAt w b o x):ArmM w b o:=⟨⟨_,h.1⟩,⟨_,h.2⟩⟩
theorem InsAt.m {w:World}{b o:Nat}{x:InsD}(h:InsAt w b o x):InsM w b o:=⟨⟨_,h.1⟩,⟨_,h.2.1⟩,⟨_,h.2.2.1⟩,⟨_,h.2.2.2.1⟩,⟨_,h.2.2.2.2⟩⟩
theorem PhiAt.m {lo:Nat}{w:World}{b o:Nat}{x:PhiD}(h:PhiAt lo w b o x)(hs:PhiSmall x):PhiM lo w.heap.size w b o:=by
 obtain⟨h1,v,h2,h3⟩:=h
 exact⟨⟨_,h1⟩,v,_,hs,h2,h3.markAt (fun _ _ _ hx=>hx.lt) (fun _ _ _ _ hx=>hx.m)⟩
theorem BlockAt.m {lo:Nat}{w:World}{b o:Nat}{x:BlockD}(h:BlockAt lo w b o x)(hs:BlockSmall x):BlockM lo w.heap.size w b o:=by
 obtain⟨pv,lv,h1,h2,h3,h4,h5,h6,h7,h8⟩:=h
 exact⟨pv,_,lv,_,hs.1,hs.2.1,h1,h2,⟨_,h3⟩,⟨_,h4⟩,⟨_,h5⟩,⟨_,h6⟩,h7.markAt (fun _ _ _ hx=>hx.lt) (fun _ _ x hm hx=>hx.m (hs.2.2 x hm)),h8.markAt (fun _ _ _ hx=>hx.lt) (fun _ _ _ _ hx=>hx.m)⟩
def FnM (lo hi:Nat)(w:World)(v:Value)(n:Nat)(vals:Int):Prop := ∃bv,v = .agg #[bv,.int .i64 vals]∧MarkAt lo hi 6 (BlockM lo hi) w bv n
theorem FnAtLo.m {lo:Nat}{w:World}{v:Value}{F:FnD}(h:FnAtLo lo w v F)(hs:FnSmall F):FnM lo w.heap.size w v F.blocks.length F.values:=by
 obtain⟨bv,rfl,hb⟩:=h
 exact⟨bv,rfl,hb.markAt (fun _ _ _ hx=>hx.lt) (fun _ _ x hm hx=>hx.m (hs.2 x hm))⟩
theorem NumAt.later {w w':World}(h:Below w.heap.size w w'){b o:Nat}(hn:NumAt w b o):NumAt w' b o:=by
 obtain⟨z,hz⟩:=hn
 exact⟨z,Bel.keeps h hz⟩
theorem ArmM.later {w w':World}(h:Below w.heap.size w w'){b o:Nat}(hn:ArmM w b o):ArmM w' b o:=⟨hn.1.later h,hn.2.later h⟩
theorem InsM.later {w w':World}(h:Below w.heap.size w w'){b o:Nat}(hn:InsM w b o):InsM w' b o:=⟨hn.1.later h,hn.2.1.later h,hn.2.2.1.later h,hn.2.2.2.1.later h,hn.2.2.2.2.later h⟩
theorem PhiM.later {lo hi:Nat}{w w':World}(h:Below w.heap.size w w'){b o:Nat}(hn:PhiM lo hi w b o):PhiM lo hi w' b o:=by
 obtain⟨h1,v,n,hn2,hv,hm⟩:=hn
 exact⟨h1.later h,_,n,hn2,Bel.keeps h hv,hm.keep fun _ _ hx=>hx.later h⟩
theorem BlockM.later {lo hi:Nat}{w w':World}(h:Below w.heap.size w w'){b o:Nat}(hn:BlockM lo hi w b o):BlockM lo hi w' b o:=by
 obtain⟨pv,pn,lv,ln,s1,s2,c0,c1,n2,n3,n4,n5,m1,m2⟩:=hn
 exact⟨_,pn,_,ln,s1,s2,Bel.keeps h c0,Bel.keeps h c1,n2.later h,n3.later h,n4.later h,n5.later h,m1.keep fun _ _ hx=>hx.later h,m2.keep fun _ _ hx=>hx.later h⟩
theorem FnM.later {lo hi:Nat}{w w':World}{v:Value}{n:Nat}{vals:Int}(hn:FnM lo hi w v n vals)(h:Below w.heap.size w w'):FnM lo hi w' v n vals:=by
 obtain⟨bv,rfl,hb⟩:=hn
 exact⟨bv,rfl,hb.keep fun _ _ hx=>hx.later h⟩
end Go.Proofs.YtfnilamkapabkaaGreatDoor
namespace Go.Proofs.YtfnilamkapabkaaGreatDoor
open Go.ChangeShapes Go.WideShapes Go.ChangeAt Go.RowKit
set_option linter.unusedVariables false
theorem OwnInts.lt {w:World}{b:Nat}{v:Value}{l:List Int}(h:OwnInts w b v l):∀g,v.ownBlock=some g→b≤g∧g<w.heap.size:=World.ownsRow.lt h
end Go.Proofs.YtfnilamkapabkaaGreatDoor
