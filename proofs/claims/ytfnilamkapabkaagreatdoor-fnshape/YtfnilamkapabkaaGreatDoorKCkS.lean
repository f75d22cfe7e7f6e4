/- The model's look, its parts: copies, and whether a value is known. The model's look, its parts: the arms of phis, and how many times a value is made. The model's look, its parts: how many times a value is made. -/
import Derived.Test.YtfnilamkapabkaaGreatDoorKMake
import Derived.Test.YtfnilamkapabkaaGreatDoorKLDoms
import Derived.Test.YtfnilamkapabkaaGreatDoorKGraph
namespace Go.Proofs.YtfnilamkapabkaaGreatDoor
open Go.ChangeShapes Go.WideShapes Go.ChangeAt Go.RowKit Go.Shelf
set_option linter.unusedVariables false
theorem FnAt.blockC {w:World}{ba:Option Addr}{n bcap:Nat}{vals:Int}{F:FnD}(h:FnAt w (.agg #[.slice ba n bcap,.int .i64 vals]) F){k:Nat}{x:BlockD}(hn:F.blocks.length=n)(hk:k<n)(hx:F.blocks[k]? = some x):∃b off,ba=some ⟨b,off,none⟩∧BlockAt 0 w b (off+k*6) x:=by
 obtain⟨bv,he,a0,cap0,hbv,_,hc⟩:=h
 have e1:(.slice ba n bcap:Value)=bv:=by simp at he;exact he.1
 rw[hbv] at e1
 simp at e1
 obtain⟨b,off,hb,_,hel⟩:=hc (by omega)
 exact⟨b,off,e1.1.trans hb,hel k x hx⟩
theorem listAt_at {α:Type}{sz:Nat}{E:World→Nat→Nat→α→Prop}{w:World}{a:Option Addr}{n cap:Nat}{l:List α}(h:ListAt 0 sz E w (.slice a n cap) l){k:Nat}{x:α}(hx:l[k]? = some x):∃b off,a=some ⟨b,off,none⟩∧E w b (off+k*sz) x:=by
 obtain⟨a0,cap0,e,_,hc⟩:=h
 simp at e
 have hk:=(List.getElem?_eq_some_iff.1 hx).1
 obtain⟨b,off,ha,_,hd⟩:=hc (by omega)
 exact⟨b,off,e.1.trans ha,hd k x hx⟩
def TellsP (w:World)(p:Prop)(e:Ending)(w':World):Prop := ∃t:Bool,e = .returned (.bool t)∧(t=true↔p)∧Below w.heap.size w w'
end Go.Proofs.YtfnilamkapabkaaGreatDoor
namespace Go.Proofs.YtfnilamkapabkaaGreatDoor
open Go.ChangeShapes Go.WideShapes Go.ChangeAt Go.RowKit Go.Shelf
set_option linter.unusedVariables false
theorem phi_makes_in {F:FnD}(hS:FnShape F){b:Nat}{x:BlockD}(hx:F.blocks[b]? = some x){j:Nat}{p:PhiD}(hp:x.phis[j]? = some p):0≤p.d∧p.d<F.values:=by
 have h:=((hS.2.2.2.2 b x hx).2.2.1 j p hp).1
 simp[valIn] at h
 exact h
theorem ins_makes_in {F:FnD}(hS:FnShape F){b:Nat}{x:BlockD}(hx:F.blocks[b]? = some x){j:Nat}{y:InsD}(hy:x.list[j]? = some y)(hm:makesV y.op=true):0≤y.d∧y.d<F.values:=by
 have h:=(hS.2.2.2.2 b x hx).2.2.2.1 j y hy
 unfold placeOkV insOkV at h
 simp only[makesV,decide_eq_true_eq] at hm
 by_cases h1:1≤y.op∧y.op≤10
 ·rw[if_pos h1] at h
  simp[valIn] at h
  omega
 ·rw[if_neg h1] at h
  have hc:y.op=20∨y.op=21∨y.op=24∨y.op=25:=by omega
  rcases hc with hc | hc | hc | hc <;> simp[hc,valIn] at h <;> omega
theorem makes_in {F:FnD}(hS:FnShape F):∀m∈makesOf F,0≤m.1∧m.1<F.values:=by
 intro m hm
 obtain⟨b,x,hx,hmx⟩:=mem_makesUp hm
 unfold blockMakes at hmx
 rcases List.mem_append.1 hmx with h | h
 ·unfold phiMakes at h
  obtain⟨p,hp,rfl⟩:=List.mem_map.1 h
  obtain⟨j,hj⟩:=List.getElem?_of_mem hp
  exact phi_makes_in hS hx hj
 ·obtain⟨j,y,hy,hmk,rfl⟩:=mem_insMakes h
  exact ins_makes_in hS hx hy hmk
theorem phiMakes_len (b:Nat)(ps:List PhiD):(phiMakes b ps).length=ps.length:=by simp[phiMakes]
theorem insMakes_len (b:Nat)(l:List InsD):∀k,(insMakes b l k).length≤k
 | 0=>Nat.le_refl _
 | k+1=>by
  unfold insMakes
  rw[List.length_append]
  have:=insMakes_len b l k
  split
  ·split
   ·simp;omega
   ·simp;omega
  ·simp;omega
theorem makesUp_len {F:FnD}(hS:FnShape F):∀k,(makesUp F k).length≤k*48
 | 0=>Nat.le_refl _
 | k+1=>by
  unfold makesUp
  rw[List.length_append]
  have h1:=makesUp_len hS k
  split
  ·rename_i x hx
   have h2:=hS.2.2.2.2 k x hx
   unfold blockMakes
   rw[List.length_append,phiMakes_len]
   have h3:=insMakes_len k x.list x.list.length
   have h4:=h2.1
   have h5:=h2.2.1
   omega
  ·simp
   omega
end Go.Proofs.YtfnilamkapabkaaGreatDoor
