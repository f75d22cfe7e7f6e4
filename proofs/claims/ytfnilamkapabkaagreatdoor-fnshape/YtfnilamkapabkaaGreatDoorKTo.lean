/- The laws' own programs, copied into the program's types: the copy reads the same, in new memory. -/
import Derived.Test.YtfnilamkapabkaaGreatDoorKIns
import Derived.Handy
import Derived.OwnWalk
import Derived.RowKit3
namespace Go.Proofs.YtfnilamkapabkaaGreatDoor
open Go.ChangeShapes Go.WideShapes Go.ChangeAt Go.RowKit
set_option linter.unusedVariables false
theorem make_of {P:Program}{t e:TypeId}{z:Value}{size bytes:Nat}(ht:P.underlying t=some (.slice e))(hi:(P.info? e).map (fun i=>(i.zero,i.size,i.bytes))=some (some z,size,bytes))(n:Nat)(hn:bytes*n≤281474976710656)(hn2:n≤9223372036854775807)(w:World) :
  (Instr.makeSlice t (.int .i64 (n:Int)) (.int .i64 (n:Int))).run P w = .ok (.slice (some ⟨w.heap.size,0,none⟩) n n) (w.alloc (.cells (madeCells z.cells (n*size)) e)):=by
 obtain⟨i,h1,h2,h3,h4⟩:=info_parts hi
 have hb:((i.bytes:Nat):Int)*(n:Int)≤281474976710656:=by
  rw[h4]
  have:((bytes*n:Nat):Int)≤281474976710656:=by omega
  rwa [Int.natCast_mul] at this
 have h:=run_make (P:=P) w t e i z ht h1 h2 .i64 .i64 (n:Int) (n:Int) (by omega) (by omega) hb (by omega)
 simpa [h3] using h
theorem Bel.put {a w:World}{B:Nat}(h:Below B a w)(o:Nat)(u:Value):Below B a (w.setCell ⟨B,o,none⟩ u):=h.setCell (Nat.le_refl B) u
def FZ (w w':World):Prop := ∀p:Addr,w'.frozen? p=w.frozen? p
theorem FZ.refl (w:World):FZ w w:=fun _=>rfl
theorem FZ.trans {a b c:World}(h:FZ a b)(k:FZ b c):FZ a c:=fun p=>(k p).trans (h p)
theorem FZ.put {a w:World}(h:FZ a w)(q:Addr)(u:Value):FZ a (w.setCell q u):=fun p=>by rw[World.frozen?_setCell];exact h p
theorem FZ.alloc {a w:World}(h:FZ a w)(c:Array Value)(t:TypeId):FZ a (w.alloc (.cells c t)):=fun p=>(frozen?_alloc_cells w c t p).trans (h p)
theorem FZ.new {w w':World}(h:FZ w w'){p:Addr}(hp:w.heap.size≤p.block):w'.frozen? p=false:=by
 rw[h p]
 simp[World.frozen?,Array.getElem?_eq_none hp]
theorem cell_aside {w:World}{b o o':Nat}{u v:Value}(h:w.cell? ⟨b,o,none⟩=some v)(ho:o'≠o):(w.setCell ⟨b,o',none⟩ u).cell? ⟨b,o,none⟩=some v:=by
 rw[World.cell?_setCell_other _ _ _ _ (by intro h;exact ho (by simpa using congrArg (fun(x:Addr)=>x.off) h))]
 exact h
theorem ArmAt.store {w:World}{b o:Nat}{x:ArmD}(h:ArmAt w b o x)(o':Nat)(u:Value)(ho:o'<o∨o+2≤o'):ArmAt (w.setCell ⟨b,o',none⟩ u) b o x :=
 ⟨cell_aside h.1 (by omega),cell_aside h.2 (by omega)⟩
theorem InsAt.store {w:World}{b o:Nat}{x:InsD}(h:InsAt w b o x)(o':Nat)(u:Value)(ho:o'<o∨o+5≤o'):InsAt (w.setCell ⟨b,o',none⟩ u) b o x :=
 ⟨cell_aside h.1 (by omega),cell_aside h.2.1 (by omega),cell_aside h.2.2.1 (by omega),cell_aside h.2.2.2.1 (by omega),cell_aside h.2.2.2.2 (by omega)⟩
theorem PhiAt.store {lo:Nat}{w:World}{b o:Nat}{x:PhiD}(h:PhiAt lo w b o x)(hb:b<lo)(o':Nat)(u:Value)(ho:o'<o∨o+2≤o'):PhiAt lo (w.setCell ⟨b,o',none⟩ u) b o x:=by
 obtain⟨h1,v,h2,h3⟩:=h
 exact⟨cell_aside h1 (by omega),v,cell_aside h2 (by omega),arms_keep h3 (Keeps.setCell _ _ _ _ _ hb)⟩
theorem BlockAt.store {lo:Nat}{w:World}{b o:Nat}{x:BlockD}(h:BlockAt lo w b o x)(hb:b<lo)(o':Nat)(u:Value)(ho:o'<o∨o+6≤o'):BlockAt lo (w.setCell ⟨b,o',none⟩ u) b o x:=by
 obtain⟨pv,lv,h1,h2,h3,h4,h5,h6,h7,h8⟩:=h
 exact⟨pv,lv,cell_aside h1 (by omega),cell_aside h2 (by omega),cell_aside h3 (by omega),cell_aside h4 (by omega),cell_aside h5 (by omega),cell_aside h6 (by omega),phis_keep h7 (Keeps.setCell _ _ _ _ _ hb),places_keep h8 (Keeps.setCell _ _ _ _ _ hb)⟩
theorem PhiAt.next {lo:Nat}{w w':World}{b o:Nat}{x:PhiD}(h:PhiAt lo w b o x)(hb:Below w.heap.size w w'):PhiAt lo w' b o x:=by
 obtain⟨h1,v,h2,h3⟩:=h
 exact⟨Bel.keeps hb h1,v,Bel.keeps hb h2,arms_keep h3 (Keeps.of_below hb _)⟩
theorem BlockAt.next {lo:Nat}{w w':World}{b o:Nat}{x:BlockD}(h:BlockAt lo w b o x)(hb:Below w.heap.size w w'):BlockAt lo w' b o x:=by
 obtain⟨pv,lv,h1,h2,h3,h4,h5,h6,h7,h8⟩:=h
 exact⟨pv,lv,Bel.keeps hb h1,Bel.keeps hb h2,Bel.keeps hb h3,Bel.keeps hb h4,Bel.keeps hb h5,Bel.keeps hb h6,phis_keep h7 (Keeps.of_below hb _),places_keep h8 (Keeps.of_below hb _)⟩
def PhiSmall (x:PhiD):Prop:=x.arms.length≤1048576
def BlockSmall (x:BlockD):Prop:=x.phis.length≤1048576∧x.list.length≤1048576∧∀p∈x.phis,PhiSmall p
def FnSmall (F:FnD):Prop:=F.blocks.length≤1048576∧∀b∈F.blocks,BlockSmall b
end Go.Proofs.YtfnilamkapabkaaGreatDoor
