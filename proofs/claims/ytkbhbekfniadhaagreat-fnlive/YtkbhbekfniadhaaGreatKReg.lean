/- Operations of a region that draws its order, one by one: what the draw of programs wants. A region that draws its order, by what holds of each operation's value: operation j leaves its value in slot s0 + j, the last one stores. A region that draws its order, by what holds of each operation's value and of each two of them: operation j leaves its value in slot s0 + j, the last one in slot d. -/
import Derived.Test.YtkbhbekfniadhaaGreatTk0
import Derived.Test.YtkbhbekfniadhaaGreatKSh8
import Derived.Maps.AppendAt
namespace Go.Proofs.YtkbhbekfniadhaaGreat
open Go.ChangeShapes Go.WideShapes Go.ChangeAt Go.RowKit
set_option linter.unusedVariables false
section
variable {P:Program} {ops:Array Oper} {S:World→Prop} {Q:Exit→Act→World→Prop} {o:Oper} {a:Act}
theorem kY {f:FuncId}{x y:Operand}{ts:Array TypeId}(ho:o.op=Op.call { callee:=Callee.value (Operand.func f),args := #[x,y],argTypes:=ts }){u v:Value}(hx:a.eval x=u)(hy:a.eval y=v)(he:∀args w,(callFunc f args).run P w=.ok (.enter f args) w)(w:World):(execOp a.eval o).run P w=.ok (.enter f #[u,v]) w:=by
 simp[execOp,ho,resolve,invoke,Act.eval,go_sem,he];simp[Act.eval] at hx hy;simp[hx,hy]
theorem abz {x:Operand}{ad:Addr}(hg:o.guard=none)(ho:o.op=.nilCheck x)(hx:a.eval x=.pointer (some ad)):YieldsIf P ops S o (.pointer (some ad)) a :=
 .inl ⟨by simp[Region.wanted,hg],fun W _=>by simp[execOp,ho,hx]⟩
theorem qd {v:Value}{x:Operand}{t:TypeId}{f:Nat}(hg:o.guard=none)(ho:o.op=.fieldAddr t x f){p:Value}(hx:a.eval x=p)(hl:∀W,(Instr.fieldAt t p f).run P W=.ok v W):YieldsIf P ops S o v a :=
 .inl ⟨by simp[Region.wanted,hg],fun W _=>by simp[execOp,ho,hx,hl W]⟩
theorem JF {v:Value}{x y:Operand}{t:TypeId}(hg:o.guard=none)(ho:o.op=.build t #[(0,x),(1,y)]){p q:Value}(hx:a.eval x=p)(hy:a.eval y=q)(hl:∀W,(Instr.build t #[(0,p),(1,q)]).run P W=.ok v W):YieldsIf P ops S o v a :=
 .inl ⟨by simp[Region.wanted,hg],fun W _=>by simp[execOp,ho,hx,hy,hl W]⟩
theorem jt {w w':World}{v:Value}{K:Act→World→Prop}(he:(execOp a.eval o).run P w=.ok (.value v) w')(h:K (a.put o.dst v) w'):o.wp P a w K Q:=by
 unfold Oper.wp;rw[he];exact h
theorem qF {w w':World}{K:Act→World→Prop}(he:(execOp a.eval o).run P w=.ok .skip w')(h:K (a.put o.dst undef) w'):o.wp P a w K Q:=by
 unfold Oper.wp;rw[he];exact h
theorem Yr {w:World}{K:Act→World→Prop}(s x:Operand)(t:TypeId)(ho:o.op=.call { callee:=.builtin .append,args := #[s,x],argTypes := #[t,t] })
  (base:Nat) (e:TypeId) (i:TypeInfo) (z:Value) (size bytes:Nat) (ht:P.underlying t=some (.slice e)) (hi:P.info? e=some i) (hz:i.zero=some z)
  (hsize:i.size=size) (hby:i.bytes=bytes) (hzs:z.cells.size=size) (hsz:0<size)
  (v:Value) (n:Nat) (xs:List Value) (hs:a.eval s=v) (hown:w.ownsRow base e size v n xs)
  (ad:Addr) (m c:Nat) (news:List Value) (hx:a.eval x=.slice (some ad) m c) (hl:news.length=m*size) (hnews:∀j u,news[j]?=some u→w.cell? (ad.add j)=some u) (h1:∀u∈news,u.oneCell'=true)
  (h63:n+m≤maxLen) (hbytes:(n+m)*bytes≤140737488355328) (hbase:base≤w.heap.size)
  (h:∀v' w',w'.ownsRow base e size v' (n+m) (xs ++ news)→w.grownBy w' v.ownBlock→(v'.ownBlock=v.ownBlock∨v'.ownBlock=some w.heap.size)→K (a.put o.dst v') w'):o.wp P a w K Q:=by
 obtain⟨v',w',hr,h2,h3,h4,h5⟩:=run_append_own_at (P:=P) w base t o.type e i z size bytes ht hi hz hsize hby hzs hsz v n xs hown ad m c news hl hnews h1 h63 hbytes hbase;unfold Oper.wp execOp;simp only[ho,resolve,invoke,builtin,Sem.run_bind,Sem.run_pure,Result.andThen_ok,List.map_toArray,List.map_cons,List.map_nil,hs,hx,hr];exact h v' w' h2 h3 h5
end
theorem yG (G:Nat)(W:World):(Instr.fieldAt 152 (.pointer (some (Z G 0))) 1).run Tryz.prog W=.ok (.pointer (some (Z G 1))) W:=by kernel_rfl
theorem aaW (G:Nat)(W:World):(Instr.fieldAt 152 (.pointer (some (Z G 0))) 0).run Tryz.prog W=.ok (.pointer (some (Z G 0))) W:=by kernel_rfl
theorem jR (G o:Nat)(W:World):(Instr.fieldAt 26 (.pointer (some (Z G o))) 0).run Tryz.prog W=.ok (.pointer (some (Z G o))) W:=by kernel_rfl
theorem kP (G o:Nat)(W:World):(Instr.fieldAt 43 (.pointer (some (Z G o))) 0).run Tryz.prog W=.ok (.pointer (some (Z G o))) W:=by kernel_rfl
theorem qe (x y:Int)(W:World):(Instr.build 143 #[(0,vi x),(1,vi y)]).run Tryz.prog W=.ok (.agg #[vi x,vi y]) W:=by kernel_rfl
theorem yX (x:Int)(a:Option Addr)(n c:Nat)(W:World):(Instr.build 107 #[(0,vi x),(1,.slice a n c)]).run Tryz.prog W=.ok (.agg #[vi x,.slice a n c]) W:=by kernel_rfl
theorem jN {g n cap i:Nat}(hi:i<n)(W:World):(Instr.indexAt 24 (sq g 0 n cap) (vi (i:Int))).run Tryz.prog W=.ok (.pointer (some (Z g (i*6)))) W:=by
 simp[Instr.indexAt,asIntOf,Sem.run_bind,run_underlying Tryz.underlying24,Tryz.sizeOf43,hi,Addr.add];intro h;omega
theorem ye {w:World}{G:Nat}{v:Value}(h:w.cell? (Z G 1)=some v):(Instr.loadAt 24 (.pointer (some (Z G 1)))).run Tryz.prog w=.ok v w:=by
 simp[Instr.loadAt,Instr.sureAddr,go_sem,h]
theorem yY {w:World}{g j:Nat}{v:Value}(h:w.cell? (Z g j)=some v):(Instr.loadAt 38 (.pointer (some (Z g j)))).run Tryz.prog w=.ok v w:=by
 simp[Instr.loadAt,Instr.sureAddr,go_sem,h]
theorem Xo (a0 a1 a2 a3:Int)(w:World):(Instr.buildSlice 105 2 #[(0,.agg #[vi a0,vi a1]),(1,.agg #[vi a2,vi a3])]).run Tryz.prog w=.ok (sq w.heap.size 0 2 2) (w.alloc (.cells #[vi a0,vi a1,vi a2,vi a3] 143)):=by
 simp[Instr.buildSlice,go_sem]
theorem adu (d:Int)(a:Option Addr)(n c:Nat)(w:World):(Instr.buildSlice 38 1 #[(0,.agg #[vi d,.slice a n c])]).run Tryz.prog w=.ok (sq w.heap.size 0 1 1) (w.alloc (.cells #[vi d,.slice a n c] 107)):=by
 simp[Instr.buildSlice,go_sem]
section
variable {P:Program} {ops:Array Oper} {Q:Exit→Act→World→Prop} {md:Region.Mode}
def zD (md:Region.Mode)(ops:Array Oper)(li:Array Bool):Prop := ∀j o,ops[j]?=some o→li.getD j false=true→∀e∈o.after,Region.binds md e=true→li.getD e.on false=true
theorem Xp (li:Array Bool)(i j:Nat)(h:i<li.size):(li.setIfInBounds i true).getD j false=if j=i then true else li.getD j false:=by
 by_cases e:j=i
 ·subst e;simp[Array.getD,h]
 ·have e2:i≠j:=fun h=>e h.symm
  simp only[e,if_false];rw[Array.getD_eq_getD_getElem?,Array.getElem?_setIfInBounds_ne e2,Array.getD_eq_getD_getElem?]
theorem zD.put {li:Array Bool}{i:Nat}(h:zD md ops li)(hi:i<li.size)(hr:∀o,ops[i]?=some o→∀e∈o.after,Region.binds md e=true→li.getD e.on false=true):zD md ops (li.setIfInBounds i true):=by
 intro j o ho hj e he hb;rw[Xp _ _ _ hi] at hj ⊢;by_cases e1:e.on=i
 ·simp[e1]
 ·simp only[e1,if_false];by_cases e2:j=i
  ·subst e2;exact hr o ho e he hb
  ·simp only[e2,if_false] at hj;exact h j o ho hj e he hb
theorem af5 {li:Array Bool}(hac:∀(i:Nat) (o:Oper),ops[i]?=some o→∀e∈o.after,e.on<i)(hs:li.size=ops.size)(hr:Region.ready md ops li = []):∀i,i<ops.size→li.getD i false=true:=by
 intro i;induction i using Nat.strongRecOn with
 | _ i ih=>
  intro hi;cases hb:li.getD i false with
  | true=>rfl
  | false=>
   have h:i<li.size:=by omega
   have hm:i∈Region.ready md ops li:=by
    refine mem_ready.2 ⟨?_,ops[i],Array.getElem?_eq_getElem hi,fun e he _=>?_⟩
    ·simp[Array.getD,h] at hb ⊢;exact hb
    ·have h1:=hac i _ (Array.getElem?_eq_getElem hi) e he;exact ih e.on h1 (by omega)
   rw[hr] at hm;simp at hm
structure RI (md:Region.Mode)(ops:Array Oper)(N s0:Nat)(a0:Act)(S:World→Prop)(T:Nat→Value→World→Prop)(Post:World→Prop)(li:Array Bool)(a:Act)(w:World):Prop where
 size:li.size=N+1
 closed:zD md ops li
 asz:a.tmps.size=a0.tmps.size
 adf:a.defers=a0.defers
 out:∀t,t<s0∨s0+N≤t→a.tmps[t]?=a0.tmps[t]?
 st:(li.getD N false=false∧S w∧∀j,j<N→li.getD j false=true→T j (a.eval (.tmp (s0+j))) w)∨((∀j,j≤N→li.getD j false=true)∧Post w)
def depOn (md:Region.Mode)(ops:Array Oper)(j i:Nat):Bool:=jb md ops j i
theorem yJ {N s0:Nat}{a0:Act}{S:World→Prop}{R:World→World→Prop}{T:Nat→Value→World→Prop}{Post:World→Prop}
  (hN:ops.size=N+1) (hs0:s0+N≤a0.tmps.size) (hac:∀(i:Nat) (o:Oper),ops[i]?=some o→∀e∈o.after,e.on<i) (hgd:∀(i:Nat) (o:Oper),ops[i]?=some o→o.guard=none)
  (hall:∀li:Array Bool,zD md ops li→(∀o,ops[N]?=some o→∀e∈o.after,Region.binds md e=true→li.getD e.on false=true)→∀j,j<N→li.getD j false=true)
  (stab:∀j v w w',T j v w→R w w'→T j v w')
  (hop:∀j,j<N→∀(o:Oper),ops[j]?=some o→∀(a:Act) (w:World),a.tmps.size=a0.tmps.size→(∀t,t<s0∨s0+N≤t→a.tmps[t]?=a0.tmps[t]?)→S w→(∀i,i<N→depOn md ops j i=true→T i (a.eval (.tmp (s0+i))) w)→∀K:Act→World→Prop,(∀v w',R w w'→S w'→T j v w'→K (a.put (some (s0+j)) v) w')→o.wp P a w K Q)
  (hlast:∀(o:Oper),ops[N]?=some o→∀(a:Act) (w:World),a.tmps.size=a0.tmps.size→(∀t,t<s0∨s0+N≤t→a.tmps[t]?=a0.tmps[t]?)→S w→(∀i,i<N→T i (a.eval (.tmp (s0+i))) w)→∀K:Act→World→Prop,(∀w',Post w'→K a w')→o.wp P a w K Q)
  (hQ:∀a w,a.tmps.size=a0.tmps.size→a.defers=a0.defers→(∀t,t<s0∨s0+N≤t→a.tmps[t]?=a0.tmps[t]?)→Post w→Q .normal a w) :
  ∀(fuel:Nat) (li:Array Bool) (a:Act) (w:World),(li.toList.filter (fun b=>!b)).length≤fuel→RI md ops N s0 a0 S T Post li a w→wpAny P md ops Q fuel li a w:=by
 have B:∀li a w,RI md ops N s0 a0 S T Post li a w→Region.ready md ops li = []→Q .normal a w:=fun li a w h hr=>by
  rcases h.st with ⟨h1,_⟩ | ⟨_,h1⟩
  ·have:=af5 hac (by rw[h.size,hN]) hr N (by omega);rw[h1] at this;cases this
  ·exact hQ a w h.asz h.adf h.out h1
 intro fuel;induction fuel with
 | zero=>
  intro li a w hc h;have hr:Region.ready md ops li = []:=by
   rw[List.eq_nil_iff_forall_not_mem];intro i hi;have h1:=(mem_ready.1 hi).1;have r:i<li.size:=by
    by_cases e:i<li.size
    ·exact e
    ·simp[Array.getD,e] at h1
   have h2:li[i]=false:=by simpa [Array.getD,r] using h1
   have h3:false∈li.toList.filter (fun b=>!b):=List.mem_filter.2 ⟨by rw[←h2];simp,rfl⟩;have h4:=List.length_pos_of_mem h3;omega
  exact⟨hr,B li a w h hr⟩
 | succ fuel ih=>
  intro li a w hc h;refine⟨B li a w h,fun i hi=>?_⟩;obtain⟨h1,o,ho,hd⟩:=mem_ready.1 hi;have ae:i<ops.size:=(aI ho).1;have r:i<li.size:=by rw[h.size];omega
  have ac:li.getD i false=false:=by simpa [Array.getD,r] using h1
  have G:((li.setIfInBounds i true).toList.filter (fun b=>!b)).length≤fuel:=by
   have M:(li.setIfInBounds i true).toList=li.toList.set i true:=by simp
   rw[M];have key:∀(l:List Bool) (i:Nat),l[i]?=some false→((l.set i true).filter (fun b=>!b)).length+1=(l.filter (fun b=>!b)).length:=by
    intro l;induction l with
    | nil=>intro i h;simp at h
    | cons b l ih2=>
     intro i h;cases i with
     | zero=>
      simp at h;subst h;simp
     | succ i=>
      have:=ih2 i (by simpa using h);cases b <;> simp at this ⊢ <;> omega
   have h2:li.toList[i]?=some false:=by
    have:li[i]=false:=by simpa [Array.getD,r] using h1
    simp[r,this]
   have:=key li.toList i h2;omega
  have U:zD md ops (li.setIfInBounds i true):=h.closed.put r (fun o' H=>by rw[ho] at H;cases H;exact hd);unfold wpOp;simp only[ho];have hw:Region.wanted o (yielded ops a.tmps)=true:=by simp[Region.wanted,hgd i o ho]
  rw[if_pos hw];refine .inl ?_;rcases h.st with ⟨V,hS,hT⟩ | ⟨hAll,_⟩
  ·by_cases ab:i<N
   ·refine hop i ab o ho a w h.asz h.out hS (fun j hj I=>?_) _ (fun v w' hR X aa=>ih _ _ _ G ?_)
    ·obtain⟨e,he,hb,he2⟩:=jD I ho;have:=hd e he hb;rw[he2] at this;exact hT j hj this
    ·refine⟨by simpa using h.size,U,Y3.trans h.asz,?_,fun t ht=>?_,.inl ⟨?_,X,fun j hj L=>?_⟩⟩
     ·exact h.adf
     ·have ad:s0+i≠t:=by omega
      have:(a.put (some (s0+i)) v).tmps[t]?=a.tmps[t]?:=by
       show(a.tmps.setIfInBounds (s0+i) v)[t]?=_;rw[Array.getElem?_setIfInBounds_ne ad]
      rw[this];exact h.out t ht
     ·rw[Xp _ _ _ r];have:¬N=i:=by omega
      simp only[this,if_false];exact V
     ·by_cases e:j=i
      ·subst e;rw[put_eq (by rw[h.asz];omega)];exact aa
      ·rw[put_ne (by omega)];rw[Xp _ _ _ r] at L;simp only[e,if_false] at L;exact stab j _ _ _ (hT j hj L) hR
   ·have J:i=N:=by omega
    subst J;have O:=hall li h.closed (fun o' H=>by rw[ho] at H;cases H;exact hd);refine hlast o ho a w h.asz h.out hS (fun j hj=>hT j hj (O j hj)) _ (fun w' hP=>ih _ _ _ G ?_);refine⟨by simpa using h.size,U,h.asz,h.adf,h.out,.inr ⟨fun j hj=>?_,hP⟩⟩;rw[Xp _ _ _ r];by_cases e:j=i
    ·simp[e]
    ·simp only[e,if_false];exact O j (by omega)
  ·have:=hAll i (by omega);rw[ac] at this;cases this
end
def aaa (a:Act)(l:List Nat)(f:Nat→Value):Act:=l.foldl (fun a t=>a.put (some t) (f t)) a
theorem adv : ∀(l:List Nat) (a:Act) (f:Nat→Value),(aaa a l f).tmps.size=a.tmps.size
 | [],_,_=>rfl
 | t::l,a,f=>(adv l (a.put (some t) (f t)) f).trans Y3
theorem ae9 : ∀(l:List Nat) (a:Act) (f:Nat→Value),(aaa a l f).defers=a.defers
 | [],_,_=>rfl
 | t::l,a,f=>ae9 l (a.put (some t) (f t)) f
theorem acf : ∀(l:List Nat) (a:Act) (f:Nat→Value) (t:Nat),t∉l→(aaa a l f).tmps[t]?=a.tmps[t]?
 | [],_,_,_,_=>rfl
 | x::l,a,f,t,h=>by
  have h1:=acf l (a.put (some x) (f x)) f t (fun e=>h (by simp[e]));have h2:x≠t:=fun e=>h (by simp[e])
  refine h1.trans ?_;show(a.tmps.setIfInBounds x (f x))[t]?=_;rw[Array.getElem?_setIfInBounds_ne h2]
theorem ahM : ∀(l:List Nat) (a:Act) (f:Nat→Value) (t:Nat),t∈l→t<a.tmps.size→(aaa a l f).tmps[t]?=some (f t)
 | [],_,_,_,h,_=>by simp at h
 | x::l,a,f,t,h,hs=>by
  by_cases hm:t∈l
  ·exact ahM l (a.put (some x) (f x)) f t hm (by rw[Y3];exact hs)
  ·have e:t=x:=by
    rcases List.mem_cons.1 h with e | e
    ·exact e
    ·exact absurd e hm
   subst e;refine(acf l (a.put (some t) (f t)) f t hm).trans ?_;show(a.tmps.setIfInBounds t (f t))[t]?=_;simp[hs]
theorem zF {a a0:Act}{s0 N:Nat}(h1:a.tmps.size=a0.tmps.size)(h2:a.defers=a0.defers)(h3:∀t,t<s0∨s0+N≤t→a.tmps[t]?=a0.tmps[t]?):a=aaa a0 (List.range' s0 N) (fun t=>a.tmps.getD t undef):=by
 have e:a.tmps=(aaa a0 (List.range' s0 N) (fun t=>a.tmps.getD t undef)).tmps:=by
  apply Array.ext_getElem?
  intro t;by_cases hm:t∈List.range' s0 N
  ·by_cases ht:t<a0.tmps.size
   ·rw[ahM _ _ _ t hm ht];have:t<a.tmps.size:=by omega
    simp[Array.getD,this]
   ·rw[Array.getElem?_eq_none (by omega),Array.getElem?_eq_none (by rw[adv];omega)]
  ·rw[acf _ _ _ t hm];refine h3 t ?_;rw[List.mem_range'_1] at hm;omega
 have e2:=(ae9 (List.range' s0 N) a0 (fun t=>a.tmps.getD t undef)).trans h2.symm;cases a
 generalize hp:aaa a0 (List.range' s0 N) _=p at *;cases p
 simp_all
section
variable {P:Program} {ops:Array Oper} {Q:Exit→Act→World→Prop} {md:Region.Mode}
end
end Go.Proofs.YtkbhbekfniadhaaGreat
