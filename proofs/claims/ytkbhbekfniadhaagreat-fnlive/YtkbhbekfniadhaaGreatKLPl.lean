/- Which values are needed: of plain programs; the model's list of a row of flags. -/
import Derived.Test.YtkbhbekfniadhaaGreatKLSpE
import Derived.Test.YtkbhbekfniadhaaGreatKLNew
import Derived.Test.YtkbhbekfniadhaaGreatKSh8
set_option maxRecDepth 100000
set_option maxHeartbeats 4000000
namespace Go.Proofs.YtkbhbekfniadhaaGreat
open Go.ChangeShapes Go.WideShapes Go.ChangeAt Go.RowKit Go.Shelf
set_option linter.unusedVariables false
theorem afM {V:Int}{y:kS}(h:qN V y=true):(∀v∈kK y.op y.a y.b,0≤v∧v<V)∧((1≤y.op∧y.op≤10)∨y.op=20∨y.op=21∨y.op=25∨y.op=24→0≤y.d∧y.d<V)∧((1≤y.op∧y.op≤10)∨(20≤y.op∧y.op≤25)):=by
 unfold qN jO at h;have hv:=@Kt V;split at h
 ·rename_i h1
  simp only[Bool.and_eq_true,hv] at h;refine⟨fun v hx=>?_,fun _=>h.1.1.1,.inl h1⟩;simp[kK,h1] at hx;rcases hx with rfl|rfl
  ·exact h.1.1.2
  ·exact h.1.2
 ·rename_i h1
  split at h
  ·rename_i h2
   simp only[Bool.and_eq_true,hv] at h;refine⟨fun v hx=>?_,fun _=>h.1.1,.inr (by omega)⟩;simp[kK,h2] at hx
  ·split at h
   ·rename_i h2 h3
    simp only[Bool.and_eq_true,hv] at h;refine⟨fun v hx=>?_,fun _=>h.1.1.1,.inr (by omega)⟩;have:kK y.op y.a y.b = [y.a]:=by rcases h3 with h3 | h3 <;> simp[kK,h3]
    rw[this] at hx;simp at hx;rw[hx];exact h.1.1.2
   ·split at h
    ·rename_i h2 h3 h4
     simp only[Bool.and_eq_true,hv] at h;refine⟨fun v hx=>?_,fun e=>absurd e (by omega),.inr (by omega)⟩;simp[kK,h4] at hx;rcases hx with rfl|rfl
     ·exact h.1.1.1
     ·exact h.1.1.2
    ·split at h
     ·rename_i h2 h3 h4 h5
      simp only[Bool.and_eq_true,hv] at h;refine⟨fun v hx=>?_,fun e=>absurd e (by omega),.inr (by omega)⟩;simp[kK,h5] at hx;rw[hx];exact h.1.1.1
     ·split at h
      ·rename_i h2 h3 h4 h5 h6
       simp only[Bool.and_eq_true,hv] at h;refine⟨fun v hx=>?_,fun _=>h.1.1.1,.inr (by omega)⟩;simp[kK,h6] at hx
      ·cases h
theorem afN {B V:Int}{x:jc}(h:jL B V x.term.k x.term.a x.term.t x.term.e=true):∀v∈kT x.term.k x.term.a,0≤v∧v<V:=by
 unfold jL at h;have hv:=@Kt V;intro v hx;split at h
 ·rename_i h1
  simp[kT,h1] at hx
 ·split at h
  ·rename_i h1 h2
   simp only[Bool.and_eq_true] at h;simp[kT,h2] at hx;rw[hx];exact hv.1 h.2
  ·split at h
   ·rename_i h1 h2 h3
    simp only[Bool.and_eq_true] at h;simp[kT,h3] at hx;rw[hx];exact hv.1 h.1.1
   ·cases h
theorem ZR {F:FnD}(h:qg F):∃n V,Je F n V:=by
 obtain⟨⟨h1,h2,h3,h4,h5⟩,_⟩:=h;refine⟨F.blocks.length,F.values.toNat,rfl,h1,h2,by omega,by omega,fun j s hs=>JJ ⟨h1,h2,h3,h4,h5⟩ j s hs,fun j x hx z hz=>?_,fun j x hx y hy=>?_⟩
 ·have:=afN (jm.term ⟨h1,h2,h3,h4,h5⟩ hx) z hz;omega
 ·obtain⟨i,hi⟩:=List.mem_iff_getElem?.1 hy;have hp:=(h5 j x hx);have r:qN F.values y=true:=hp.2.2.2.1 i y hi;obtain⟨q1,q2,q3⟩:=afM r;refine⟨fun z hz=>by have:=q1 z hz;omega,?_⟩;unfold jX;by_cases e:kD y.op=true
  ·rw[if_pos e];have e2:(1≤y.op∧y.op≤10)∨y.op=20∨y.op=21∨y.op=24∨y.op=25:=by simpa [kD] using e
   have:=q2 (by omega);exact .inr (by omega)
  ·rw[if_neg e];exact .inl rfl
theorem Je.takes {F:FnD}{n V:Nat}(h:Je F n V)(j:Nat)(x:jc)(hx:F.blocks[j]?=some x):Qq x :=
 ⟨fun y hy z hz=>by have:=(h.uses j x hx y hy).1 z hz;have:=h.v80;omega,fun z hz=>by have:=h.ends j x hx z hz;have:=h.v80;omega⟩
theorem liveV {F:FnD}{n V:Nat}(h:Je F n V)(b:Nat):∀z∈qz F b,z<(V:Int):=fun z hz=>by
 have hl:=((Xb F b z).1 hz).1;have:=hl (fun i=>(qz F i).filter (fun z=>decide (z<(V:Int)))) (fun i u hu=>?_)
 ·simpa using (List.mem_filter.1 this).2
 ·have h1:∀c,∀q∈(qz F c).filter (fun z=>decide (z<(V:Int))),q<(V:Int):=fun c q hq=>by simpa using (List.mem_filter.1 hq).2
  refine List.mem_filter.2 ⟨?_,by simpa using h.inV h1 i u hu⟩;have h2:=Xa F (i:=fun i=>(qz F i).filter (fun z=>decide (z<(V:Int)))) (j:=qz F) (fun c q hq=>(List.mem_filter.1 hq).1) i u hu;rw[Xb];exact⟨fun C hC=>hC i u (Xa F (fun c q hq=>((Xb F c q).1 hq).1 C hC) i u h2),(Qa F (qz F) i).2 u h2⟩
def upL (V:Nat)(l:List Int)(k:Nat):List Int:=((List.range k).map (fun(j:Nat)=>(j:Int))).filter (fun z=>decide (z∈l))
theorem ae0 (V:Nat)(l:List Int)(k:Nat):upL V l (k+1)=upL V l k ++ (if (k:Int)∈l then [(k:Int)] else []):=by
 unfold upL;rw[List.range_succ,List.map_append,List.filter_append];by_cases h:(k:Int)∈l <;> simp[h]
theorem upL_len (V:Nat)(l:List Int)(k:Nat):(upL V l k).length≤k:=by
 unfold upL;refine Nat.le_trans (List.length_filter_le _ _) (by simp)
theorem upL_eq {V:Nat}{l:List Int}(ha:Asc l)(h8:JZ l)(hV:∀z∈l,z<(V:Int)):upL V l V=l:=by
 refine XR ?_ ha (fun z=>?_)
 ·unfold upL Asc;refine List.Pairwise.filter _ ?_;rw[List.pairwise_map];exact List.pairwise_lt_range.imp (fun h=>by omega)
 ·unfold upL;rw[List.mem_filter];simp only[List.mem_map,List.mem_range,decide_eq_true_eq];exact⟨fun h=>h.2,fun h=>⟨⟨z.toNat,by have:=hV z h;have:=h8 z h;omega,by have:=h8 z h;omega⟩,h⟩⟩
theorem ad3 (la:Option Addr)(V lcap:Nat)(l:List Int)(w:World)(hl:xU w (.slice la V lcap) (bitsOf V l))(hV:V≤80) :
  Calls Tryz.prog 41 #[.slice la V lcap] w fun e w'=>JS w (upL V l V) e w':=by
 have HL:Hid (xU w (.slice la V lcap) (bitsOf V l)):=hl;obtain⟨i0,hi,hz0,hz1,hz2⟩:=info_parts adb;have I:2000000≤maxLen:=by decide
 clear hl;obtain⟨wA,hwA⟩:∃wA,w.alloc (.cells #[] 3)=wA:=⟨_,rfl⟩;have BA:Hid (Below w.heap.size w wA):=by rw[←hwA];exact Bel.alloc _ _
 have OA:Hid (ja wA w.heap.size (sq w.heap.size 0 0 0) []):=by rw[←hwA];exact JT w
 go_enter Tryz.func41,Tryz.ntmps41
 go_wp2_with fail
 go_loopw [3,4] (fun mv i wr=>∃(k g cap n:Nat),k≤V∧i=vi k∧mv=sq g 0 n cap∧(upL V l k).length=n∧ja wr w.heap.size (sq g 0 n cap) (upL V l k)∧Below w.heap.size w wr) (fun _ i _=>V-(intOf i).toNat)
 case atStart=>exact⟨0,w.heap.size,0,0,Nat.zero_le _,rfl,rfl,rfl,OA.out,BA.out⟩
 case round=>
  obtain⟨wq,hwq⟩:∃x,x=wr:=⟨_,rfl⟩;subst hwq;obtain⟨k,g,cap,n,hk,rfl,rfl,hn,hO,hB⟩:=hrel;have OQ:Hid (ja wq w.heap.size (sq g 0 n cap) (upL V l k)):=hO;have BQ:Hid (Below w.heap.size w wq):=hB;have HN:Hid ((upL V l k).length=n):=hn;have J:n≤k:=by rw[←hn];exact upL_len V l k
  have K:=hB.size;clear hO hB hn;by_cases H:(k:Int)<(V:Int)
  ·have B:k<V:=by omega
   obtain⟨rb,roff,hla,hc⟩:=(HL.out.keep BQ.out).cell (xV _ _) B;rw[Qx _ B] at hc;subst hla;obtain⟨t,HT⟩:∃t,Hid (decide ((k:Int)∈l)=t):=⟨_,rfl⟩;rw[HT.out] at hc;cases t
   ·go_wp2_with fail
    go_roundw
    case rel=>
     have e:upL V l (k+1)=upL V l k:=by rw[ae0,if_neg (of_decide_eq_false HT.out),List.append_nil]
     exact⟨k+1,g,cap,n,by omega,by simp,rfl,by rw[e];exact HN.out,by rw[e];exact OQ.out,BQ.out⟩
    case measure=>simp[intOf];omega
   ·go_wp2_with (at_builtin;refine wpList_append_own _ rfl _ _ 30 rfl w.heap.size 3 i0 (vi 0) 1 8 Tryz.underlying30 hi hz0 hz1 hz2 rfl (by decide) (sq g 0 n cap) n ((upL V l k).map (fun x=>vi x)) rfl (World.ownsRow.alloc (by have:=OQ.out;unfold ja at this;rw[HN.out] at this;exact this) _) (Z wq.heap.size 0) 1 1 [vi k] (by simp[Act.eval]) rfl (by have:=cell_one_new wq (vi k) 3;simpa using this) (by simp[Value.oneCell']) (by omega) (by omega) (by simp;omega) ?_;intro v' wa h r _;obtain⟨g',cap',rfl⟩:=ownsRow_succ h)
    go_roundw
    case rel=>
     have e:upL V l (k+1)=upL V l k ++ [(k:Int)]:=by rw[ae0,if_pos (of_decide_eq_true HT.out)]
     refine⟨k+1,g',cap',n+1,by omega,by simp,rfl,by rw[e];simp[HN.out],?_,BQ.out.trans ((Bel.aeX _ _ (by omega)).trans ((Below.refl w.heap.size _).grown r (by simp;omega) (fun j ej=>(OQ.out.lt j ej).1)))⟩;rw[e];unfold ja;rw[List.length_append,HN.out];simpa using h
    case measure=>simp[intOf];omega
  ·have G:V=k:=by omega
   subst G;go_wp2_with fail
   go_ret;exact⟨_,rfl,OQ.out,BQ.out⟩
end Go.Proofs.YtkbhbekfniadhaaGreat
