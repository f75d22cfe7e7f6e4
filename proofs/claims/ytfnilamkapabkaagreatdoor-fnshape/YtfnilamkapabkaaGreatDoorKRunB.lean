/- A place of a list is done: the program's step, for each kind of place. The phis of a block are done at once: the program's phis and enter. A run goes on till the end: the program's all. -/
import Derived.Test.YtfnilamkapabkaaGreatDoorKRunA
import Derived.Test.YtfnilamkapabkaaGreatDoorKTab
import Derived.WalkMore
namespace Go.Proofs.YtfnilamkapabkaaGreatDoor
open Go.ChangeShapes Go.WideShapes Go.ChangeAt Go.RowKit Go.Shelf
set_option linter.unusedVariables false
section
variable {P:Program} {ops:Array Oper} {Q:Exit→Act→World→Prop} {md:Region.Mode} {S:World→Prop} {m:Nat}
theorem wpAnyM_oneK {i:Nat}{o:Oper}{fuel:Nat}{li:Array Bool}{a:Act}{w:World}(ho:ops[i]? = some o)(hg:o.guard=none)(hr:Region.ready md ops li = [i])
  (h:∀K:Act→World→Prop,(∀a' w',((i≠m→S w')∧wpAnyM P md ops Q m S fuel (li.setIfInBounds i true) a' w')→K a' w')→o.wp P a w K Q):wpAnyM P md ops Q m S (fuel+1) li a w :=
 wpAnyM_one ho hg hr (h _ (fun _ _ h=>h))
theorem wpAnyM_twoK {i j:Nat}{o o2:Oper}{fuel:Nat}{li:Array Bool}{a:Act}{w:World}(ho:ops[i]? = some o)(hg:o.guard=none)(ho2:ops[j]? = some o2)(hg2:o2.guard=none)(hr:Region.ready md ops li = [i,j])
  (h:∀K:Act→World→Prop,(∀a' w',((i≠m→S w')∧wpAnyM P md ops Q m S fuel (li.setIfInBounds i true) a' w')→K a' w')→o.wp P a w K Q)
  (h2:∀K:Act→World→Prop,(∀a' w',((j≠m→S w')∧wpAnyM P md ops Q m S fuel (li.setIfInBounds j true) a' w')→K a' w')→o2.wp P a w K Q):wpAnyM P md ops Q m S (fuel+1) li a w:=by
 refine⟨fun h0=>(by rw[hr] at h0;simp at h0),fun q hq=>?_⟩
 rw[hr] at hq
 have hq2:q=i∨q=j:=by simpa using hq
 rcases hq2 with e | e
 ·subst e
  unfold wpOp
  simp only[ho]
  rw[if_pos (by simp[Region.wanted,hg])]
  exact .inl (h _ (fun _ _ h=>h))
 ·subst e
  unfold wpOp
  simp only[ho2]
  rw[if_pos (by simp[Region.wanted,hg2])]
  exact .inl (h2 _ (fun _ _ h=>h))
end
theorem keep_copy {w:World}{R d a:Nat}{y:Int}(c:w.cell? ⟨R,14+a,none⟩=some (.int .i64 y)):(w.setCell ⟨R,14+d,none⟩ (.int .i64 y)).cell? ⟨R,14+a,none⟩=some (.int .i64 y):=by
 by_cases e:a=d
 ·subst e
  exact World.cell?_setCell_same _ _ _ c
 ·exact far_off c (by omega)
section
variable {W0:World} {R S:Nat} {bv:Value} {vals:Int} {s:RunS} {fr pl:Int}
set_option maxHeartbeats 1000000 in
theorem step_fuel (op d a b n:Int)(w:World)(h:RunIs W0 w R S bv vals s fr pl)(hf:s.fuel=0) :
  Calls Tryz.prog 92 #[.pointer (some ⟨R,0,none⟩),.agg #[.int .i64 op,.int .i64 d,.int .i64 a,.int .i64 b,.int .i64 n]] w fun e w'=>e = .returned (.int .i64 1)∧RunTo W0 R S bv vals fr pl w s w':=by
 have HH0:Hid (RunIs W0 w R S bv vals s fr pl):=h
 clear h
 go_enter Tryz.func92,Tryz.ntmps92
 go_wp2_with fail
 refine(burn_none (W0:=W0) (S:=S) (bv:=bv) (vals:=vals) (s:=s) (fr:=fr) (pl:=pl) _ (HH0.out.later (Bel.alloc w _)) hf).mono ?_
 rintro e w1 ⟨rfl,hw1⟩
 subst hw1
 go_wp2
 go_ret
 exact⟨rfl,HH0.out.later (Bel.alloc w _),FrR.ofBelow (Bel.alloc w _)⟩
set_option maxRecDepth 100000 in
set_option maxHeartbeats 4000000 in
theorem step_const (d:Nat)(n:Int)(hd:d<80)(w:World)(h:RunIs W0 w R S bv vals s fr pl){k:Nat}(hf:s.fuel=k+1)(hk:k≤5000) :
  Calls Tryz.prog 92 #[.pointer (some ⟨R,0,none⟩),.agg #[.int .i64 20,.int .i64 (d:Int),.int .i64 0,.int .i64 0,.int .i64 n]] w fun e w'=>e = .returned (.int .i64 0)∧RunTo W0 R S bv vals fr pl w { s with fuel:=k,vals:=updN s.vals d n } w':=by
 have hp:placeV 20 (d:Int) 0 0 n = .iface 187 (.agg #[.int .i64 (d:Int),.int .i64 (n:Int)]):=by simp[placeV]
 have HF0:Hid (s.fuel=k+1):=hf
 have HH0:Hid (RunIs W0 w R S bv vals s fr pl):=h
 have hRB:w.heap.size≠R:=by have:=h.lt.1;omega
 have hSB:w.heap.size≠S:=by have:=h.lt.2;omega
 have hd2:(d:Int)<80:=by omega
 clear h hf
 go_enter Tryz.func92,Tryz.ntmps92
 go_wp2_with fail
 refine(burn_one (W0:=W0) (S:=S) (bv:=bv) (vals:=vals) (s:=s) (fr:=fr) (pl:=pl) _ (HH0.out.later (Bel.alloc w _)) HF0.out hk).mono ?_
 rintro e w1 ⟨rfl,h1,f1⟩
 have bx:=f1.box (B:=w.heap.size) (World.alloc_heap_new w _) hRB hSB (by decide)
 have HF1:Hid (FrR R S w w1):=(FrR.ofBelow (Bel.alloc w _)).trans f1
 have HH1:Hid (RunIs W0 w1 R S bv vals { s with fuel:=k } fr pl):=h1
 have e0:w1.cell? ⟨w.heap.size,0,none⟩=some (.int .i64 20):=by simp[World.cell?,bx]
 have e1:w1.cell? ⟨w.heap.size,1,none⟩=some (.int .i64 (d:Int)):=by simp[World.cell?,bx]
 have e2:w1.cell? ⟨w.heap.size,2,none⟩=some (.int .i64 0):=by simp[World.cell?,bx]
 have e3:w1.cell? ⟨w.heap.size,3,none⟩=some (.int .i64 0):=by simp[World.cell?,bx]
 have e4:w1.cell? ⟨w.heap.size,4,none⟩=some (.int .i64 n):=by simp[World.cell?,bx]
 clear h1 f1 bx
 go_wp2_with fail
 refine(placeOf_any 20 (d:Int) 0 0 n w1).mono ?_
 rintro e w2 ⟨rfl,b2⟩
 rw[hp]
 have HF2:Hid (FrR R S w w2):=HF1.out.trans (FrR.ofBelow b2)
 have HH2:Hid (RunIs W0 w2 R S bv vals { s with fuel:=k } fr pl):=HH1.out.later b2
 clear b2 e0 e1 e2 e3 e4
 have nword:=wordPlace_no
 have yconst:=constPlace_yes
 go_wp2_with fail
 have h:=HH2.out.later (Bel.alloc w2 (.cells #[.int .i64 (d:Int),.int .i64 (n:Int)] 187))
 have x0:(w2.alloc (.cells #[.int .i64 (d:Int),.int .i64 (n:Int)] 187)).cell? ⟨w2.heap.size,0,none⟩=some (.int .i64 (d:Int)):=by simp only[World.cell?];rw[World.alloc_heap_new];rfl
 have x1:(w2.alloc (.cells #[.int .i64 (d:Int),.int .i64 (n:Int)] 187)).cell? ⟨w2.heap.size,1,none⟩=some (.int .i64 (n:Int)):=by simp only[World.cell?];rw[World.alloc_heap_new];rfl
 have HF:Hid (FrR R S w (w2.alloc (.cells #[.int .i64 (d:Int),.int .i64 (n:Int)] 187))):=HF2.out.trans (FrR.ofBelow (Bel.alloc _ _))
 have hRX:R≠w2.heap.size:=by have:=HH2.out.lt.1;omega
 have hSX:w2.heap.size≠S:=by have:=HH2.out.lt.2;omega
 have HBX:Hid ((w2.alloc (.cells #[.int .i64 (d:Int),.int .i64 (n:Int)] 187)).heap[w2.heap.size]? = some (.cells #[.int .i64 (d:Int),.int .i64 (n:Int)] 187 (0,0))):=World.alloc_heap_new w2 _
 generalize w2.alloc (.cells #[.int .i64 (d:Int),.int .i64 (n:Int)] 187)=w3 at x0 x1 h HF HBX ⊢
 generalize w2.heap.size=B at x0 x1 hRX hSX HBX ⊢
 obtain⟨rv,tv,pv,h⟩:=h
 have HH:Hid (RunAt W0 w3 R S bv vals { s with fuel:=k } fr pl rv tv pv):=h
 have cd:=h.cells.cv d hd
 obtain⟨z,Hz⟩:∃z,Hid (s.vals d=z):=⟨_,rfl⟩
 simp only[Hz.out] at cd
 have fz:=h.frozen (14+d)
 clear h
 go_region_held3 (fun w'=>w'.cell? ⟨B,0,none⟩=some (.int .i64 (d:Int))∧w'.cell? ⟨B,1,none⟩=some (.int .i64 n)) (first | exact⟨far_block x0 hRX,far_block x1 hRX⟩ | go_keep) (fail)
 simp only[Exit.inBlock,Exit.then]
 go_at_K
 go_wp2
 go_ret
 refine⟨rfl,⟨rv,tv,pv,?_⟩,?_⟩
 ·first | exact(HH.out.setVal hd n).drew | exact HH.out.setVal hd n
 ·refine HF.out.trans ((FrR.setR R S (14+d) (.int .i64 n) w3).trans ?_)
  first | exact FrR.refl _ _ _ | exact FrR.drew _ _ _ | exact(FrR.drew _ _ _).trans (FrR.drew _ _ _)
set_option maxRecDepth 100000 in
set_option maxHeartbeats 4000000 in
theorem step_copy (d a:Nat)(hd:d<80)(ha:a<80)(w:World)(h:RunIs W0 w R S bv vals s fr pl){k:Nat}(hf:s.fuel=k+1)(hk:k≤5000) :
  Calls Tryz.prog 92 #[.pointer (some ⟨R,0,none⟩),.agg #[.int .i64 25,.int .i64 (d:Int),.int .i64 (a:Int),.int .i64 0,.int .i64 0]] w fun e w'=>e = .returned (.int .i64 0)∧RunTo W0 R S bv vals fr pl w { s with fuel:=k,vals:=updN s.vals d (s.vals a) } w':=by
 have hp:placeV 25 (d:Int) (a:Int) 0 0 = .iface 185 (.agg #[.int .i64 (d:Int),.int .i64 (a:Int)]):=by simp[placeV]
 have HF0:Hid (s.fuel=k+1):=hf
 have HH0:Hid (RunIs W0 w R S bv vals s fr pl):=h
 have hRB:w.heap.size≠R:=by have:=h.lt.1;omega
 have hSB:w.heap.size≠S:=by have:=h.lt.2;omega
 have hd2:(d:Int)<80:=by omega
 have ha2:(a:Int)<80:=by omega
 clear h hf
 go_enter Tryz.func92,Tryz.ntmps92
 go_wp2_with fail
 refine(burn_one (W0:=W0) (S:=S) (bv:=bv) (vals:=vals) (s:=s) (fr:=fr) (pl:=pl) _ (HH0.out.later (Bel.alloc w _)) HF0.out hk).mono ?_
 rintro e w1 ⟨rfl,h1,f1⟩
 have bx:=f1.box (B:=w.heap.size) (World.alloc_heap_new w _) hRB hSB (by decide)
 have HF1:Hid (FrR R S w w1):=(FrR.ofBelow (Bel.alloc w _)).trans f1
 have HH1:Hid (RunIs W0 w1 R S bv vals { s with fuel:=k } fr pl):=h1
 have e0:w1.cell? ⟨w.heap.size,0,none⟩=some (.int .i64 25):=by simp[World.cell?,bx]
 have e1:w1.cell? ⟨w.heap.size,1,none⟩=some (.int .i64 (d:Int)):=by simp[World.cell?,bx]
 have e2:w1.cell? ⟨w.heap.size,2,none⟩=some (.int .i64 (a:Int)):=by simp[World.cell?,bx]
 have e3:w1.cell? ⟨w.heap.size,3,none⟩=some (.int .i64 0):=by simp[World.cell?,bx]
 have e4:w1.cell? ⟨w.heap.size,4,none⟩=some (.int .i64 0):=by simp[World.cell?,bx]
 clear h1 f1 bx
 go_wp2_with fail
 refine(placeOf_any 25 (d:Int) (a:Int) 0 0 w1).mono ?_
 rintro e w2 ⟨rfl,b2⟩
 rw[hp]
 have HF2:Hid (FrR R S w w2):=HF1.out.trans (FrR.ofBelow b2)
 have HH2:Hid (RunIs W0 w2 R S bv vals { s with fuel:=k } fr pl):=HH1.out.later b2
 clear b2 e0 e1 e2 e3 e4
 have nword:=wordPlace_no
 have nconst:=constPlace_no
 have nload:=loadPlace_no
 have nstore:=storePlace_no
 have nout:=outPlace_no
 have nread:=readPlace_no
 have ycopy:=copyPlace_yes
 go_wp2_with fail
 have h:=HH2.out.later (Bel.alloc w2 (.cells #[.int .i64 (d:Int),.int .i64 (a:Int)] 185))
 have x0:(w2.alloc (.cells #[.int .i64 (d:Int),.int .i64 (a:Int)] 185)).cell? ⟨w2.heap.size,0,none⟩=some (.int .i64 (d:Int)):=by simp only[World.cell?];rw[World.alloc_heap_new];rfl
 have x1:(w2.alloc (.cells #[.int .i64 (d:Int),.int .i64 (a:Int)] 185)).cell? ⟨w2.heap.size,1,none⟩=some (.int .i64 (a:Int)):=by simp only[World.cell?];rw[World.alloc_heap_new];rfl
 have HF:Hid (FrR R S w (w2.alloc (.cells #[.int .i64 (d:Int),.int .i64 (a:Int)] 185))):=HF2.out.trans (FrR.ofBelow (Bel.alloc _ _))
 have hRX:R≠w2.heap.size:=by have:=HH2.out.lt.1;omega
 have hSX:w2.heap.size≠S:=by have:=HH2.out.lt.2;omega
 have HBX:Hid ((w2.alloc (.cells #[.int .i64 (d:Int),.int .i64 (a:Int)] 185)).heap[w2.heap.size]? = some (.cells #[.int .i64 (d:Int),.int .i64 (a:Int)] 185 (0,0))):=World.alloc_heap_new w2 _
 generalize w2.alloc (.cells #[.int .i64 (d:Int),.int .i64 (a:Int)] 185)=w3 at x0 x1 h HF HBX ⊢
 generalize w2.heap.size=B at x0 x1 hRX hSX HBX ⊢
 obtain⟨rv,tv,pv,h⟩:=h
 have HH:Hid (RunAt W0 w3 R S bv vals { s with fuel:=k } fr pl rv tv pv):=h
 have cd:=h.cells.cv d hd
 obtain⟨z,Hz⟩:∃z,Hid (s.vals d=z):=⟨_,rfl⟩
 simp only[Hz.out] at cd
 have ca:=h.cells.cv a ha
 obtain⟨y,Hy⟩:∃y,Hid (s.vals a=y):=⟨_,rfl⟩
 simp only[Hy.out] at ca
 have fz:=h.frozen (14+d)
 clear h
 go_region_held3 (fun w'=>w'.cell? ⟨B,0,none⟩=some (.int .i64 (d:Int))∧w'.cell? ⟨B,1,none⟩=some (.int .i64 (a:Int))∧w'.cell? ⟨R,14+a,none⟩=some (.int .i64 y)) (first | exact⟨far_block x0 hRX,far_block x1 hRX,keep_copy ca⟩ | go_keep) (fail)
 simp only[Exit.inBlock,Exit.then]
 go_at_K
 go_wp2
 go_ret
 refine⟨rfl,⟨rv,tv,pv,?_⟩,?_⟩
 ·rw[Hy.out]
  first | exact(HH.out.setVal hd y).drew | exact HH.out.setVal hd y
 ·refine HF.out.trans ((FrR.setR R S (14+d) (.int .i64 y) w3).trans ?_)
  first | exact FrR.refl _ _ _ | exact FrR.drew _ _ _ | exact(FrR.drew _ _ _).trans (FrR.drew _ _ _)
set_option maxRecDepth 100000 in
set_option maxHeartbeats 4000000 in
theorem step_word (op:Int)(d a b:Nat)(hd:d<80)(ha:a<80)(hb:b<80)(q0:(op == 20)=false)(q1:(op == 21)=false)(q2:(op == 22)=false)(q3:(op == 23)=false)(q4:(op == 24)=false)(q5:(op == 25)=false)(hop:1≤op)(hop1:op≤10)(w:World)(h:RunIs W0 w R S bv vals s fr pl){k:Nat}(hf:s.fuel=k+1)(hk:k≤5000) :
  Calls Tryz.prog 92 #[.pointer (some ⟨R,0,none⟩),.agg #[.int .i64 op,.int .i64 (d:Int),.int .i64 (a:Int),.int .i64 (b:Int),.int .i64 0]] w fun e w'=>e = .returned (.int .i64 0)∧RunTo W0 R S bv vals fr pl w { s with fuel:=k,vals:=updN s.vals d (wordV op (s.vals a) (s.vals b)) } w':=by
 have hp:placeV op (d:Int) (a:Int) (b:Int) 0 = .iface 178 (.agg #[.int .i64 (op:Int),.int .i64 (d:Int),.int .i64 (a:Int),.int .i64 (b:Int)]):=by exact placeV_word q0 q1 q2 q3 q4 q5 hop hop1
 have HF0:Hid (s.fuel=k+1):=hf
 have HH0:Hid (RunIs W0 w R S bv vals s fr pl):=h
 have hRB:w.heap.size≠R:=by have:=h.lt.1;omega
 have hSB:w.heap.size≠S:=by have:=h.lt.2;omega
 have hd2:(d:Int)<80:=by omega
 have ha2:(a:Int)<80:=by omega
 have hb2:(b:Int)<80:=by omega
 clear h hf
 go_enter Tryz.func92,Tryz.ntmps92
 go_wp2_with fail
 refine(burn_one (W0:=W0) (S:=S) (bv:=bv) (vals:=vals) (s:=s) (fr:=fr) (pl:=pl) _ (HH0.out.later (Bel.alloc w _)) HF0.out hk).mono ?_
 rintro e w1 ⟨rfl,h1,f1⟩
 have bx:=f1.box (B:=w.heap.size) (World.alloc_heap_new w _) hRB hSB (by decide)
 have HF1:Hid (FrR R S w w1):=(FrR.ofBelow (Bel.alloc w _)).trans f1
 have HH1:Hid (RunIs W0 w1 R S bv vals { s with fuel:=k } fr pl):=h1
 have e0:w1.cell? ⟨w.heap.size,0,none⟩=some (.int .i64 op):=by simp[World.cell?,bx]
 have e1:w1.cell? ⟨w.heap.size,1,none⟩=some (.int .i64 (d:Int)):=by simp[World.cell?,bx]
 have e2:w1.cell? ⟨w.heap.size,2,none⟩=some (.int .i64 (a:Int)):=by simp[World.cell?,bx]
 have e3:w1.cell? ⟨w.heap.size,3,none⟩=some (.int .i64 (b:Int)):=by simp[World.cell?,bx]
 have e4:w1.cell? ⟨w.heap.size,4,none⟩=some (.int .i64 0):=by simp[World.cell?,bx]
 clear h1 f1 bx
 go_wp2_with fail
 refine(placeOf_any op (d:Int) (a:Int) (b:Int) 0 w1).mono ?_
 rintro e w2 ⟨rfl,b2⟩
 rw[hp]
 have HF2:Hid (FrR R S w w2):=HF1.out.trans (FrR.ofBelow b2)
 have HH2:Hid (RunIs W0 w2 R S bv vals { s with fuel:=k } fr pl):=HH1.out.later b2
 clear b2 e0 e1 e2 e3 e4
 have yword:=wordPlace_yes
 go_wp2_with fail
 have h:=HH2.out.later (Bel.alloc w2 (.cells #[.int .i64 (op:Int),.int .i64 (d:Int),.int .i64 (a:Int),.int .i64 (b:Int)] 178))
 have x0:(w2.alloc (.cells #[.int .i64 (op:Int),.int .i64 (d:Int),.int .i64 (a:Int),.int .i64 (b:Int)] 178)).cell? ⟨w2.heap.size,0,none⟩=some (.int .i64 (op:Int)):=by simp only[World.cell?];rw[World.alloc_heap_new];rfl
 have x1:(w2.alloc (.cells #[.int .i64 (op:Int),.int .i64 (d:Int),.int .i64 (a:Int),.int .i64 (b:Int)] 178)).cell? ⟨w2.heap.size,1,none⟩=some (.int .i64 (d:Int)):=by simp only[World.cell?];rw[World.alloc_heap_new];rfl
 have x2:(w2.alloc (.cells #[.int .i64 (op:Int),.int .i64 (d:Int),.int .i64 (a:Int),.int .i64 (b:Int)] 178)).cell? ⟨w2.heap.size,2,none⟩=some (.int .i64 (a:Int)):=by simp only[World.cell?];rw[World.alloc_heap_new];rfl
 have x3:(w2.alloc (.cells #[.int .i64 (op:Int),.int .i64 (d:Int),.int .i64 (a:Int),.int .i64 (b:Int)] 178)).cell? ⟨w2.heap.size,3,none⟩=some (.int .i64 (b:Int)):=by simp only[World.cell?];rw[World.alloc_heap_new];rfl
 have HF:Hid (FrR R S w (w2.alloc (.cells #[.int .i64 (op:Int),.int .i64 (d:Int),.int .i64 (a:Int),.int .i64 (b:Int)] 178))):=HF2.out.trans (FrR.ofBelow (Bel.alloc _ _))
 have hRX:R≠w2.heap.size:=by have:=HH2.out.lt.1;omega
 have hSX:w2.heap.size≠S:=by have:=HH2.out.lt.2;omega
 have HBX:Hid ((w2.alloc (.cells #[.int .i64 (op:Int),.int .i64 (d:Int),.int .i64 (a:Int),.int .i64 (b:Int)] 178)).heap[w2.heap.size]? = some (.cells #[.int .i64 (op:Int),.int .i64 (d:Int),.int .i64 (a:Int),.int .i64 (b:Int)] 178 (0,0))):=World.alloc_heap_new w2 _
 generalize w2.alloc (.cells #[.int .i64 (op:Int),.int .i64 (d:Int),.int .i64 (a:Int),.int .i64 (b:Int)] 178)=w3 at x0 x1 x2 x3 h HF HBX ⊢
 generalize w2.heap.size=B at x0 x1 x2 x3 hRX hSX HBX ⊢
 obtain⟨rv,tv,pv,h⟩:=h
 have HH:Hid (RunAt W0 w3 R S bv vals { s with fuel:=k } fr pl rv tv pv):=h
 have ca:=h.cells.cv a ha
 obtain⟨y,Hy⟩:∃y,Hid (s.vals a=y):=⟨_,rfl⟩
 simp only[Hy.out] at ca
 have cb:=h.cells.cv b hb
 obtain⟨x,Hx⟩:∃x,Hid (s.vals b=x):=⟨_,rfl⟩
 simp only[Hx.out] at cb
 clear h
 have hS:w3.drew.cell? ⟨B,0,none⟩=some (.int .i64 op)∧w3.drew.cell? ⟨B,1,none⟩=some (.int .i64 (d:Int))∧w3.drew.cell? ⟨B,2,none⟩=some (.int .i64 (a:Int))∧w3.drew.cell? ⟨B,3,none⟩=some (.int .i64 (b:Int))∧w3.drew.cell? ⟨R,14+a,none⟩=some (.int .i64 y)∧w3.drew.cell? ⟨R,14+b,none⟩=some (.int .i64 x):=⟨x0,x1,x2,x3,ca,cb⟩
 refine region_M 20 (fun w'=>w'.cell? ⟨B,0,none⟩=some (.int .i64 op)∧w'.cell? ⟨B,1,none⟩=some (.int .i64 (d:Int))∧w'.cell? ⟨B,2,none⟩=some (.int .i64 (a:Int))∧w'.cell? ⟨B,3,none⟩=some (.int .i64 (b:Int))∧w'.cell? ⟨R,14+a,none⟩=some (.int .i64 y)∧w'.cell? ⟨R,14+b,none⟩=some (.int .i64 x)) (by kernel_rfl) ?_
 refine wpAnyM_take (i:=0) (oi:=⟨some 26,.move (.tmp 5),224,"l06_run.go:150",#[],none⟩) (v := .pointer (some ⟨R,14,none⟩)) rfl (by kernel_rfl) (by kernel_rfl) (by kernel_rfl) (by kernel_rfl) (fun _ _ _ h=>h) (Or.inl ⟨by rfl,fun W hW=>by obtain⟨q0,q1,q2,q3,q4,q5⟩:=hW;go_simp⟩) hS ?_
 simp only[Act.put,List.setIfInBounds_toArray,List.set_cons_zero,List.set_cons_succ]
 refine wpAnyM_take (i:=1) (oi:=⟨some 27,.fieldAddr 178 (.tmp 6) 1,0,"l06_run.go:150",#[],none⟩) (v := .pointer (some ⟨B,1,none⟩)) rfl (by kernel_rfl) (by kernel_rfl) (by kernel_rfl) (by kernel_rfl) (fun _ _ _ h=>h) (Or.inl ⟨by rfl,fun W hW=>by obtain⟨q0,q1,q2,q3,q4,q5⟩:=hW;go_simp⟩) hS ?_
 simp only[Act.put,List.setIfInBounds_toArray,List.set_cons_zero,List.set_cons_succ]
 refine wpAnyM_take (i:=2) (oi:=⟨some 28,.load 3 (.tmp 27),3,"l06_run.go:150",#[⟨1,.data⟩],none⟩) (v := .int .i64 (d:Int)) rfl (by kernel_rfl) (by kernel_rfl) (by kernel_rfl) (by kernel_rfl) (fun _ _ _ h=>h) (Or.inl ⟨by rfl,fun W hW=>by obtain⟨q0,q1,q2,q3,q4,q5⟩:=hW;go_simp⟩) hS ?_
 simp only[Act.put,List.setIfInBounds_toArray,List.set_cons_zero,List.set_cons_succ]
 refine wpAnyM_take (i:=3) (oi:=⟨some 29,.fieldAddr 178 (.tmp 6) 0,0,"l06_run.go:150",#[],none⟩) (v := .pointer (some ⟨B,0,none⟩)) rfl (by kernel_rfl) (by kernel_rfl) (by kernel_rfl) (by kernel_rfl) (fun _ _ _ h=>h) (Or.inl ⟨by rfl,fun W hW=>by obtain⟨q0,q1,q2,q3,q4,q5⟩:=hW;go_simp⟩) hS ?_
 simp only[Act.put,List.setIfInBounds_toArray,List.set_cons_zero,List.set_cons_succ]
 refine wpAnyM_take (i:=4) (oi:=⟨some 30,.load 3 (.tmp 29),3,"l06_run.go:150",#[⟨3,.data⟩],none⟩) (v := .int .i64 op) rfl (by kernel_rfl) (by kernel_rfl) (by kernel_rfl) (by kernel_rfl) (fun _ _ _ h=>h) (Or.inl ⟨by rfl,fun W hW=>by obtain⟨q0,q1,q2,q3,q4,q5⟩:=hW;go_simp⟩) hS ?_
 simp only[Act.put,List.setIfInBounds_toArray,List.set_cons_zero,List.set_cons_succ]
 refine wpAnyM_take (i:=5) (oi:=⟨some 31,.move (.tmp 5),224,"l06_run.go:150",#[],none⟩) (v := .pointer (some ⟨R,14,none⟩)) rfl (by kernel_rfl) (by kernel_rfl) (by kernel_rfl) (by kernel_rfl) (fun _ _ _ h=>h) (Or.inl ⟨by rfl,fun W hW=>by obtain⟨q0,q1,q2,q3,q4,q5⟩:=hW;go_simp⟩) hS ?_
 simp only[Act.put,List.setIfInBounds_toArray,List.set_cons_zero,List.set_cons_succ]
 refine wpAnyM_take (i:=6) (oi:=⟨some 32,.fieldAddr 178 (.tmp 6) 2,0,"l06_run.go:150",#[],none⟩) (v := .pointer (some ⟨B,2,none⟩)) rfl (by kernel_rfl) (by kernel_rfl) (by kernel_rfl) (by kernel_rfl) (fun _ _ _ h=>h) (Or.inl ⟨by rfl,fun W hW=>by obtain⟨q0,q1,q2,q3,q4,q5⟩:=hW;go_simp⟩) hS ?_
 simp only[Act.put,List.setIfInBounds_toArray,List.set_cons_zero,List.set_cons_succ]
 refine wpAnyM_take (i:=7) (oi:=⟨some 33,.load 3 (.tmp 32),3,"l06_run.go:150",#[⟨6,.data⟩],none⟩) (v := .int .i64 (a:Int)) rfl (by kernel_rfl) (by kernel_rfl) (by kernel_rfl) (by kernel_rfl) (fun _ _ _ h=>h) (Or.inl ⟨by rfl,fun W hW=>by obtain⟨q0,q1,q2,q3,q4,q5⟩:=hW;go_simp⟩) hS ?_
 simp only[Act.put,List.setIfInBounds_toArray,List.set_cons_zero,List.set_cons_succ]
 refine wpAnyM_take (i:=8) (oi:=⟨some 34,.nilCheck (.tmp 31),0,"l06_run.go:150",#[⟨5,.data⟩],none⟩) (v := .pointer (some ⟨R,14,none⟩)) rfl (by kernel_rfl) (by kernel_rfl) (by kernel_rfl) (by kernel_rfl) (fun _ _ _ h=>h) (Or.inl ⟨by rfl,fun W hW=>by obtain⟨q0,q1,q2,q3,q4,q5⟩:=hW;go_simp⟩) hS ?_
 simp only[Act.put,List.setIfInBounds_toArray,List.set_cons_zero,List.set_cons_succ]
 refine wpAnyM_take (i:=9) (oi:=⟨some 35,.indexAddr 83 (.tmp 34) (.tmp 33),0,"l06_run.go:150",#[⟨8,.data⟩,⟨7,.data⟩],none⟩) (v := .pointer (some ⟨R,14+a,none⟩)) rfl (by kernel_rfl) (by kernel_rfl) (by kernel_rfl) (by kernel_rfl) (fun _ _ _ h=>h) (Or.inl ⟨by rfl,fun W hW=>by obtain⟨q0,q1,q2,q3,q4,q5⟩:=hW;go_simp⟩) hS ?_
 simp only[Act.put,List.setIfInBounds_toArray,List.set_cons_zero,List.set_cons_succ]
 refine wpAnyM_take (i:=10) (oi:=⟨some 36,.load 3 (.tmp 35),3,"l06_run.go:150",#[⟨9,.data⟩],none⟩) (v := .int .i64 y) rfl (by kernel_rfl) (by kernel_rfl) (by kernel_rfl) (by kernel_rfl) (fun _ _ _ h=>h) (Or.inl ⟨by rfl,fun W hW=>by obtain⟨q0,q1,q2,q3,q4,q5⟩:=hW;go_simp⟩) hS ?_
 simp only[Act.put,List.setIfInBounds_toArray,List.set_cons_zero,List.set_cons_succ]
 refine wpAnyM_take (i:=11) (oi:=⟨some 37,.move (.tmp 5),224,"l06_run.go:150",#[],none⟩) (v := .pointer (some ⟨R,14,none⟩)) rfl (by kernel_rfl) (by kernel_rfl) (by kernel_rfl) (by kernel_rfl) (fun _ _ _ h=>h) (Or.inl ⟨by rfl,fun W hW=>by obtain⟨q0,q1,q2,q3,q4,q5⟩:=hW;go_simp⟩) hS ?_
 simp only[Act.put,List.setIfInBounds_toArray,List.set_cons_zero,List.set_cons_succ]
 refine wpAnyM_take (i:=12) (oi:=⟨some 38,.fieldAddr 178 (.tmp 6) 3,0,"l06_run.go:150",#[],none⟩) (v := .pointer (some ⟨B,3,none⟩)) rfl (by kernel_rfl) (by kernel_rfl) (by kernel_rfl) (by kernel_rfl) (fun _ _ _ h=>h) (Or.inl ⟨by rfl,fun W hW=>by obtain⟨q0,q1,q2,q3,q4,q5⟩:=hW;go_simp⟩) hS ?_
 simp only[Act.put,List.setIfInBounds_toArray,List.set_cons_zero,List.set_cons_succ]
 refine wpAnyM_take (i:=13) (oi:=⟨some 39,.load 3 (.tmp 38),3,"l06_run.go:150",#[⟨12,.data⟩],none⟩) (v := .int .i64 (b:Int)) rfl (by kernel_rfl) (by kernel_rfl) (by kernel_rfl) (by kernel_rfl) (fun _ _ _ h=>h) (Or.inl ⟨by rfl,fun W hW=>by obtain⟨q0,q1,q2,q3,q4,q5⟩:=hW;go_simp⟩) hS ?_
 simp only[Act.put,List.setIfInBounds_toArray,List.set_cons_zero,List.set_cons_succ]
 refine wpAnyM_take (i:=14) (oi:=⟨some 40,.nilCheck (.tmp 37),0,"l06_run.go:150",#[⟨11,.data⟩],none⟩) (v := .pointer (some ⟨R,14,none⟩)) rfl (by kernel_rfl) (by kernel_rfl) (by kernel_rfl) (by kernel_rfl) (fun _ _ _ h=>h) (Or.inl ⟨by rfl,fun W hW=>by obtain⟨q0,q1,q2,q3,q4,q5⟩:=hW;go_simp⟩) hS ?_
 simp only[Act.put,List.setIfInBounds_toArray,List.set_cons_zero,List.set_cons_succ]
 refine wpAnyM_take (i:=15) (oi:=⟨some 41,.indexAddr 83 (.tmp 40) (.tmp 39),0,"l06_run.go:150",#[⟨14,.data⟩,⟨13,.data⟩],none⟩) (v := .pointer (some ⟨R,14+b,none⟩)) rfl (by kernel_rfl) (by kernel_rfl) (by kernel_rfl) (by kernel_rfl) (fun _ _ _ h=>h) (Or.inl ⟨by rfl,fun W hW=>by obtain⟨q0,q1,q2,q3,q4,q5⟩:=hW;go_simp⟩) hS ?_
 simp only[Act.put,List.setIfInBounds_toArray,List.set_cons_zero,List.set_cons_succ]
 refine wpAnyM_take (i:=16) (oi:=⟨some 42,.load 3 (.tmp 41),3,"l06_run.go:150",#[⟨15,.data⟩],none⟩) (v := .int .i64 x) rfl (by kernel_rfl) (by kernel_rfl) (by kernel_rfl) (by kernel_rfl) (fun _ _ _ h=>h) (Or.inl ⟨by rfl,fun W hW=>by obtain⟨q0,q1,q2,q3,q4,q5⟩:=hW;go_simp⟩) hS ?_
 simp only[Act.put,List.setIfInBounds_toArray,List.set_cons_zero,List.set_cons_succ]
 refine wpAnyM_twoK (i:=17) (j:=18) (o:=⟨some 43,.call ⟨.value (.func 149),#[.tmp 30,.tmp 36,.tmp 42],#[3,3,3]⟩,3,"l06_run.go:150",#[⟨4,.data⟩,⟨10,.data⟩,⟨16,.data⟩],none⟩) (o2:=⟨some 44,.nilCheck (.tmp 26),0,"l06_run.go:150",#[⟨0,.data⟩],none⟩) rfl rfl rfl rfl (by kernel_rfl) (fun K hK=>?_) (fun K hK=>?_)
 ·refine wp_call_of (f:=149) (args := #[.int .i64 op,.int .i64 y,.int .i64 x]) (by go_simp) (impl_word op y x _) ?_
  rintro e w4 ⟨rfl,hq⟩
  refine⟨_,rfl,?_⟩
  have h4:=HH.out.drew.later hq.2
  have HF4:Hid (FrR R S w w4):=HF.out.trans ((FrR.drew R S w3).trans (FrR.ofBelow hq.2))
  have cd4:=h4.cells.cv d hd
  have fz4:=h4.frozen (14+d)
  have HH4:Hid (RunAt W0 w4 R S bv vals { s with fuel:=k } fr pl rv tv pv):=h4
  refine hK _ _ ⟨fun _=>⟨Bel.keeps hq.2 hS.1,Bel.keeps hq.2 hS.2.1,Bel.keeps hq.2 hS.2.2.1,Bel.keeps hq.2 hS.2.2.2.1,Bel.keeps hq.2 hS.2.2.2.2.1,Bel.keeps hq.2 hS.2.2.2.2.2⟩,?_⟩
  have hS4:w4.cell? ⟨B,0,none⟩=some (.int .i64 op)∧w4.cell? ⟨B,1,none⟩=some (.int .i64 (d:Int))∧w4.cell? ⟨B,2,none⟩=some (.int .i64 (a:Int))∧w4.cell? ⟨B,3,none⟩=some (.int .i64 (b:Int))∧w4.cell? ⟨R,14+a,none⟩=some (.int .i64 y)∧w4.cell? ⟨R,14+b,none⟩=some (.int .i64 x):=⟨Bel.keeps hq.2 hS.1,Bel.keeps hq.2 hS.2.1,Bel.keeps hq.2 hS.2.2.1,Bel.keeps hq.2 hS.2.2.2.1,Bel.keeps hq.2 hS.2.2.2.2.1,Bel.keeps hq.2 hS.2.2.2.2.2⟩
  clear hq h4 hK
  simp only[Act.put,List.setIfInBounds_toArray,List.set_cons_zero,List.set_cons_succ]
  refine wpAnyM_oneK (i:=18) (o:=⟨some 44,.nilCheck (.tmp 26),0,"l06_run.go:150",#[⟨0,.data⟩],none⟩) rfl rfl (by kernel_rfl) (fun K hK=>?_)
  go_simp
  refine hK _ _ ⟨fun _=>hS4,?_⟩
  clear hK
  refine wpAnyM_oneK (i:=19) (o:=⟨some 45,.indexAddr 83 (.tmp 44) (.tmp 28),0,"l06_run.go:150",#[⟨18,.data⟩,⟨2,.data⟩,⟨0,.phase⟩,⟨1,.phase⟩,⟨2,.phase⟩,⟨3,.phase⟩,⟨4,.phase⟩,⟨5,.phase⟩,⟨6,.phase⟩,⟨7,.phase⟩,⟨8,.phase⟩,⟨9,.phase⟩,⟨10,.phase⟩,⟨11,.phase⟩,⟨12,.phase⟩,⟨13,.phase⟩,⟨14,.phase⟩,⟨15,.phase⟩,⟨16,.phase⟩,⟨17,.phase⟩],none⟩) rfl rfl (by kernel_rfl) (fun K hK=>?_)
  go_simp
  refine hK _ _ ⟨fun _=>hS4,?_⟩
  clear hK
  refine wpAnyM_oneK (i:=20) (o:=⟨none,.store 3 (.tmp 45) (.tmp 43),0,"l06_run.go:150",#[⟨19,.data⟩,⟨17,.data⟩,⟨17,.chain⟩,⟨0,.phase⟩,⟨1,.phase⟩,⟨2,.phase⟩,⟨3,.phase⟩,⟨4,.phase⟩,⟨5,.phase⟩,⟨6,.phase⟩,⟨7,.phase⟩,⟨8,.phase⟩,⟨9,.phase⟩,⟨10,.phase⟩,⟨11,.phase⟩,⟨12,.phase⟩,⟨13,.phase⟩,⟨14,.phase⟩,⟨15,.phase⟩,⟨16,.phase⟩,⟨17,.phase⟩],none⟩) rfl rfl (by kernel_rfl) (fun K hK=>?_)
  go_simp
  refine hK _ _ ⟨fun h=>absurd rfl h,wpAnyM_done (by kernel_rfl) ?_ _⟩
  clear hK
  simp only[Exit.inBlock,Exit.then]
  go_at_K
  go_wp2
  go_ret
  refine⟨rfl,⟨rv,tv,pv,?_⟩,?_⟩
  ·rw[Hy.out,Hx.out]
   exact HH4.out.setVal hd _
  ·exact HF4.out.trans (FrR.setR R S (14+d) (.int .i64 (wordV op y x)) w4)
 ·go_simp
  refine hK _ _ ⟨fun _=>hS,?_⟩
  clear hK
  refine wpAnyM_oneK (i:=17) (o:=⟨some 43,.call ⟨.value (.func 149),#[.tmp 30,.tmp 36,.tmp 42],#[3,3,3]⟩,3,"l06_run.go:150",#[⟨4,.data⟩,⟨10,.data⟩,⟨16,.data⟩],none⟩) rfl rfl (by kernel_rfl) (fun K hK=>?_)
  refine wp_call_of (f:=149) (args := #[.int .i64 op,.int .i64 y,.int .i64 x]) (by go_simp) (impl_word op y x _) ?_
  rintro e w4 ⟨rfl,hq⟩
  refine⟨_,rfl,?_⟩
  have h4:=HH.out.drew.later hq.2
  have HF4:Hid (FrR R S w w4):=HF.out.trans ((FrR.drew R S w3).trans (FrR.ofBelow hq.2))
  have cd4:=h4.cells.cv d hd
  have fz4:=h4.frozen (14+d)
  have HH4:Hid (RunAt W0 w4 R S bv vals { s with fuel:=k } fr pl rv tv pv):=h4
  refine hK _ _ ⟨fun _=>⟨Bel.keeps hq.2 hS.1,Bel.keeps hq.2 hS.2.1,Bel.keeps hq.2 hS.2.2.1,Bel.keeps hq.2 hS.2.2.2.1,Bel.keeps hq.2 hS.2.2.2.2.1,Bel.keeps hq.2 hS.2.2.2.2.2⟩,?_⟩
  have hS4:w4.cell? ⟨B,0,none⟩=some (.int .i64 op)∧w4.cell? ⟨B,1,none⟩=some (.int .i64 (d:Int))∧w4.cell? ⟨B,2,none⟩=some (.int .i64 (a:Int))∧w4.cell? ⟨B,3,none⟩=some (.int .i64 (b:Int))∧w4.cell? ⟨R,14+a,none⟩=some (.int .i64 y)∧w4.cell? ⟨R,14+b,none⟩=some (.int .i64 x):=⟨Bel.keeps hq.2 hS.1,Bel.keeps hq.2 hS.2.1,Bel.keeps hq.2 hS.2.2.1,Bel.keeps hq.2 hS.2.2.2.1,Bel.keeps hq.2 hS.2.2.2.2.1,Bel.keeps hq.2 hS.2.2.2.2.2⟩
  clear hq h4 hK
  simp only[Act.put,List.setIfInBounds_toArray,List.set_cons_zero,List.set_cons_succ]
  refine wpAnyM_oneK (i:=19) (o:=⟨some 45,.indexAddr 83 (.tmp 44) (.tmp 28),0,"l06_run.go:150",#[⟨18,.data⟩,⟨2,.data⟩,⟨0,.phase⟩,⟨1,.phase⟩,⟨2,.phase⟩,⟨3,.phase⟩,⟨4,.phase⟩,⟨5,.phase⟩,⟨6,.phase⟩,⟨7,.phase⟩,⟨8,.phase⟩,⟨9,.phase⟩,⟨10,.phase⟩,⟨11,.phase⟩,⟨12,.phase⟩,⟨13,.phase⟩,⟨14,.phase⟩,⟨15,.phase⟩,⟨16,.phase⟩,⟨17,.phase⟩],none⟩) rfl rfl (by kernel_rfl) (fun K hK=>?_)
  go_simp
  refine hK _ _ ⟨fun _=>hS4,?_⟩
  clear hK
  refine wpAnyM_oneK (i:=20) (o:=⟨none,.store 3 (.tmp 45) (.tmp 43),0,"l06_run.go:150",#[⟨19,.data⟩,⟨17,.data⟩,⟨17,.chain⟩,⟨0,.phase⟩,⟨1,.phase⟩,⟨2,.phase⟩,⟨3,.phase⟩,⟨4,.phase⟩,⟨5,.phase⟩,⟨6,.phase⟩,⟨7,.phase⟩,⟨8,.phase⟩,⟨9,.phase⟩,⟨10,.phase⟩,⟨11,.phase⟩,⟨12,.phase⟩,⟨13,.phase⟩,⟨14,.phase⟩,⟨15,.phase⟩,⟨16,.phase⟩,⟨17,.phase⟩],none⟩) rfl rfl (by kernel_rfl) (fun K hK=>?_)
  go_simp
  refine hK _ _ ⟨fun h=>absurd rfl h,wpAnyM_done (by kernel_rfl) ?_ _⟩
  clear hK
  simp only[Exit.inBlock,Exit.then]
  go_at_K
  go_wp2
  go_ret
  refine⟨rfl,⟨rv,tv,pv,?_⟩,?_⟩
  ·rw[Hy.out,Hx.out]
   exact HH4.out.setVal hd _
  ·exact HF4.out.trans (FrR.setR R S (14+d) (.int .i64 (wordV op y x)) w4)
set_option maxRecDepth 100000 in
set_option maxHeartbeats 4000000 in
theorem step_out (a:Nat)(ha:a<80)(hl:s.told.length≤5000)(w:World)(h:RunIs W0 w R S bv vals s fr pl){k:Nat}(hf:s.fuel=k+1)(hk:k≤5000) :
  Calls Tryz.prog 92 #[.pointer (some ⟨R,0,none⟩),.agg #[.int .i64 23,.int .i64 0,.int .i64 (a:Int),.int .i64 0,.int .i64 0]] w fun e w'=>e = .returned (.int .i64 0)∧RunTo W0 R S bv vals fr pl w { s with fuel:=k,told:=s.told ++ [s.vals a] } w':=by
 have hp:placeV 23 0 (a:Int) 0 0 = .iface 184 (.agg #[.int .i64 (a:Int)]):=by simp[placeV]
 have HF0:Hid (s.fuel=k+1):=hf
 have HH0:Hid (RunIs W0 w R S bv vals s fr pl):=h
 have hRB:w.heap.size≠R:=by have:=h.lt.1;omega
 have hSB:w.heap.size≠S:=by have:=h.lt.2;omega
 have ha2:(a:Int)<80:=by omega
 clear h hf
 go_enter Tryz.func92,Tryz.ntmps92
 go_wp2_with fail
 refine(burn_one (W0:=W0) (S:=S) (bv:=bv) (vals:=vals) (s:=s) (fr:=fr) (pl:=pl) _ (HH0.out.later (Bel.alloc w _)) HF0.out hk).mono ?_
 rintro e w1 ⟨rfl,h1,f1⟩
 have bx:=f1.box (B:=w.heap.size) (World.alloc_heap_new w _) hRB hSB (by decide)
 have HF1:Hid (FrR R S w w1):=(FrR.ofBelow (Bel.alloc w _)).trans f1
 have HH1:Hid (RunIs W0 w1 R S bv vals { s with fuel:=k } fr pl):=h1
 have e0:w1.cell? ⟨w.heap.size,0,none⟩=some (.int .i64 23):=by simp[World.cell?,bx]
 have e1:w1.cell? ⟨w.heap.size,1,none⟩=some (.int .i64 0):=by simp[World.cell?,bx]
 have e2:w1.cell? ⟨w.heap.size,2,none⟩=some (.int .i64 (a:Int)):=by simp[World.cell?,bx]
 have e3:w1.cell? ⟨w.heap.size,3,none⟩=some (.int .i64 0):=by simp[World.cell?,bx]
 have e4:w1.cell? ⟨w.heap.size,4,none⟩=some (.int .i64 0):=by simp[World.cell?,bx]
 clear h1 f1 bx
 go_wp2_with fail
 refine(placeOf_any 23 0 (a:Int) 0 0 w1).mono ?_
 rintro e w2 ⟨rfl,b2⟩
 rw[hp]
 have HF2:Hid (FrR R S w w2):=HF1.out.trans (FrR.ofBelow b2)
 have HH2:Hid (RunIs W0 w2 R S bv vals { s with fuel:=k } fr pl):=HH1.out.later b2
 clear b2 e0 e1 e2 e3 e4
 have nword:=wordPlace_no
 have nconst:=constPlace_no
 have nload:=loadPlace_no
 have nstore:=storePlace_no
 have yout:=outPlace_yes
 go_wp2_with fail
 have h:=HH2.out.later (Bel.alloc w2 (.cells #[.int .i64 (a:Int)] 184))
 have x0:(w2.alloc (.cells #[.int .i64 (a:Int)] 184)).cell? ⟨w2.heap.size,0,none⟩=some (.int .i64 (a:Int)):=by simp only[World.cell?];rw[World.alloc_heap_new];rfl
 have HF:Hid (FrR R S w (w2.alloc (.cells #[.int .i64 (a:Int)] 184))):=HF2.out.trans (FrR.ofBelow (Bel.alloc _ _))
 have hRX:R≠w2.heap.size:=by have:=HH2.out.lt.1;omega
 have hSX:w2.heap.size≠S:=by have:=HH2.out.lt.2;omega
 have HBX:Hid ((w2.alloc (.cells #[.int .i64 (a:Int)] 184)).heap[w2.heap.size]? = some (.cells #[.int .i64 (a:Int)] 184 (0,0))):=World.alloc_heap_new w2 _
 generalize w2.alloc (.cells #[.int .i64 (a:Int)] 184)=w3 at x0 h HF HBX ⊢
 generalize w2.heap.size=B at x0 hRX hSX HBX ⊢
 obtain⟨rv,tv,pv,h⟩:=h
 have HH:Hid (RunAt W0 w3 R S bv vals { s with fuel:=k } fr pl rv tv pv):=h
 have ca:=h.cells.cv a ha
 obtain⟨y,Hy⟩:∃y,Hid (s.vals a=y):=⟨_,rfl⟩
 simp only[Hy.out] at ca
 clear h
 go_region_held3 (fun w'=>w'.cell? ⟨B,0,none⟩=some (.int .i64 (a:Int))∧w'.cell? ⟨R,14+a,none⟩=some (.int .i64 y)) (first | exact⟨z0,z1⟩ | go_keep)
  (first | (go_at_call 152;refine(tell_any (W0:=W0) (S:=S) (bv:=bv) (vals:=vals) (s := { s with fuel:=k }) (fr:=fr) (pl:=pl) y _ ⟨rv,tv,pv,HH.out.drew⟩ hl).mono ?_;rintro e w4 ⟨⟨v4,rfl⟩,h4,f4⟩;have z0:w4.cell? ⟨B,0,none⟩=some (.int .i64 (a:Int)):=(by have hb:=f4.box (B:=B) HBX.out (fun e=>hRX e.symm) hSX (by decide);simp[World.cell?,hb]);have HF4:Hid (FrR R S w w4):=HF.out.trans ((FrR.drew R S w3).trans f4);have HH4:Hid (RunIs W0 w4 R S bv vals { s with fuel:=k,told:=s.told ++ [y] } fr pl):=h4;have z1:w4.cell? ⟨R,14+a,none⟩=some (.int .i64 y):=(by obtain⟨r4,t4,p4,h5⟩:=h4;have:=h5.cells.cv a ha;rw[←Hy.out];exact this);clear h4 f4))
 simp only[Exit.inBlock,Exit.then]
 go_at_K
 go_wp2
 go_ret
 rw[Hy.out]
 exact⟨rfl,HH4.out,HF4.out⟩
set_option maxRecDepth 100000 in
set_option maxHeartbeats 4000000 in
theorem step_read (d:Nat)(hd:d<80)(w:World)(h:RunIs W0 w R S bv vals s fr pl){k:Nat}(hf:s.fuel=k+1)(hk:k≤5000) :
  Calls Tryz.prog 92 #[.pointer (some ⟨R,0,none⟩),.agg #[.int .i64 24,.int .i64 (d:Int),.int .i64 0,.int .i64 0,.int .i64 0]] w fun e w'=>e = .returned (.int .i64 0)∧RunTo W0 R S bv vals fr pl w { s with fuel:=k,vals:=updN s.vals d (s.reads.headD 0),reads:=s.reads.tail } w':=by
 have hp:placeV 24 (d:Int) 0 0 0 = .iface 189 (.agg #[.int .i64 (d:Int)]):=by simp[placeV]
 have HF0:Hid (s.fuel=k+1):=hf
 have HH0:Hid (RunIs W0 w R S bv vals s fr pl):=h
 have hRB:w.heap.size≠R:=by have:=h.lt.1;omega
 have hSB:w.heap.size≠S:=by have:=h.lt.2;omega
 have hd2:(d:Int)<80:=by omega
 clear h hf
 go_enter Tryz.func92,Tryz.ntmps92
 go_wp2_with fail
 refine(burn_one (W0:=W0) (S:=S) (bv:=bv) (vals:=vals) (s:=s) (fr:=fr) (pl:=pl) _ (HH0.out.later (Bel.alloc w _)) HF0.out hk).mono ?_
 rintro e w1 ⟨rfl,h1,f1⟩
 have bx:=f1.box (B:=w.heap.size) (World.alloc_heap_new w _) hRB hSB (by decide)
 have HF1:Hid (FrR R S w w1):=(FrR.ofBelow (Bel.alloc w _)).trans f1
 have HH1:Hid (RunIs W0 w1 R S bv vals { s with fuel:=k } fr pl):=h1
 have e0:w1.cell? ⟨w.heap.size,0,none⟩=some (.int .i64 24):=by simp[World.cell?,bx]
 have e1:w1.cell? ⟨w.heap.size,1,none⟩=some (.int .i64 (d:Int)):=by simp[World.cell?,bx]
 have e2:w1.cell? ⟨w.heap.size,2,none⟩=some (.int .i64 0):=by simp[World.cell?,bx]
 have e3:w1.cell? ⟨w.heap.size,3,none⟩=some (.int .i64 0):=by simp[World.cell?,bx]
 have e4:w1.cell? ⟨w.heap.size,4,none⟩=some (.int .i64 0):=by simp[World.cell?,bx]
 clear h1 f1 bx
 go_wp2_with fail
 refine(placeOf_any 24 (d:Int) 0 0 0 w1).mono ?_
 rintro e w2 ⟨rfl,b2⟩
 rw[hp]
 have HF2:Hid (FrR R S w w2):=HF1.out.trans (FrR.ofBelow b2)
 have HH2:Hid (RunIs W0 w2 R S bv vals { s with fuel:=k } fr pl):=HH1.out.later b2
 clear b2 e0 e1 e2 e3 e4
 have nword:=wordPlace_no
 have nconst:=constPlace_no
 have nload:=loadPlace_no
 have nstore:=storePlace_no
 have nout:=outPlace_no
 have yread:=readPlace_yes
 go_wp2_with fail
 have h:=HH2.out.later (Bel.alloc w2 (.cells #[.int .i64 (d:Int)] 189))
 have x0:(w2.alloc (.cells #[.int .i64 (d:Int)] 189)).cell? ⟨w2.heap.size,0,none⟩=some (.int .i64 (d:Int)):=by simp only[World.cell?];rw[World.alloc_heap_new];rfl
 have HF:Hid (FrR R S w (w2.alloc (.cells #[.int .i64 (d:Int)] 189))):=HF2.out.trans (FrR.ofBelow (Bel.alloc _ _))
 have hRX:R≠w2.heap.size:=by have:=HH2.out.lt.1;omega
 have hSX:w2.heap.size≠S:=by have:=HH2.out.lt.2;omega
 have HBX:Hid ((w2.alloc (.cells #[.int .i64 (d:Int)] 189)).heap[w2.heap.size]? = some (.cells #[.int .i64 (d:Int)] 189 (0,0))):=World.alloc_heap_new w2 _
 generalize w2.alloc (.cells #[.int .i64 (d:Int)] 189)=w3 at x0 h HF HBX ⊢
 generalize w2.heap.size=B at x0 hRX hSX HBX ⊢
 obtain⟨rv,tv,pv,h⟩:=h
 have HH:Hid (RunAt W0 w3 R S bv vals { s with fuel:=k } fr pl rv tv pv):=h
 clear h
 obtain⟨y,Hy⟩:∃y,Hid (s.reads.headD 0=y):=⟨_,rfl⟩
 go_region_held3 (fun w'=>w'.cell? ⟨B,0,none⟩=some (.int .i64 (d:Int))) (first | exact far_block z0 hRX | exact z0 | go_keep)
  (first | (go_at_call 153;refine(read_any (W0:=W0) (S:=S) (bv:=bv) (vals:=vals) (s := { s with fuel:=k }) (fr:=fr) (pl:=pl) _ ⟨rv,tv,pv,HH.out.drew⟩).mono ?_;rintro e w4 ⟨he,h4,f4⟩;rw[show({ s with fuel:=k }:RunS).reads.headD 0=y from Hy.out] at he;subst he;have z0:w4.cell? ⟨B,0,none⟩=some (.int .i64 (d:Int)):=(by have hb:=f4.box (B:=B) HBX.out (fun e=>hRX e.symm) hSX (by decide);simp[World.cell?,hb]);have HF4:Hid (FrR R S w w4):=HF.out.trans ((FrR.drew R S w3).trans f4);obtain⟨rv4,tv4,pv4,h4⟩:=h4;have cd4:=h4.cells.cv d hd;have fz4:=h4.frozen (14+d);have HH4:Hid (RunAt W0 w4 R S bv vals { s with fuel:=k,reads:=s.reads.tail } fr pl rv4 tv4 pv4):=h4;clear h4 f4))
 simp only[Exit.inBlock,Exit.then]
 go_at_K
 go_wp2
 go_ret
 refine⟨rfl,⟨rv4,tv4,pv4,?_⟩,?_⟩
 ·rw[Hy.out]
  first | exact(HH4.out.setVal hd _).drew | exact HH4.out.setVal hd _
 ·refine HF4.out.trans ((FrR.setR R S (14+d) (.int .i64 y) w4).trans ?_)
  first | exact FrR.refl _ _ _ | exact FrR.drew _ _ _ | exact(FrR.drew _ _ _).trans (FrR.drew _ _ _)
set_option maxRecDepth 100000 in
set_option maxHeartbeats 4000000 in
theorem step_load (d a c:Nat)(hd:d<80)(ha:a<80)(hc:c<8)(hv:s.vals a=(c:Int))(w:World)(h:RunIs W0 w R S bv vals s fr pl){k:Nat}(hf:s.fuel=k+1)(hk:k≤5000) :
  Calls Tryz.prog 92 #[.pointer (some ⟨R,0,none⟩),.agg #[.int .i64 21,.int .i64 (d:Int),.int .i64 (a:Int),.int .i64 0,.int .i64 0]] w fun e w'=>e = .returned (.int .i64 0)∧RunTo W0 R S bv vals fr pl w { s with fuel:=k,vals:=updN s.vals d (s.cells c) } w':=by
 have hp:placeV 21 (d:Int) (a:Int) 0 0 = .iface 180 (.agg #[.int .i64 (d:Int),.int .i64 (a:Int)]):=by simp[placeV]
 have HF0:Hid (s.fuel=k+1):=hf
 have HH0:Hid (RunIs W0 w R S bv vals s fr pl):=h
 have hRB:w.heap.size≠R:=by have:=h.lt.1;omega
 have hSB:w.heap.size≠S:=by have:=h.lt.2;omega
 clear h hf
 go_enter Tryz.func92,Tryz.ntmps92
 go_wp2_with fail
 refine(burn_one (W0:=W0) (S:=S) (bv:=bv) (vals:=vals) (s:=s) (fr:=fr) (pl:=pl) _ (HH0.out.later (Bel.alloc w _)) HF0.out hk).mono ?_
 rintro e w1 ⟨rfl,h1,f1⟩
 have bx:=f1.box (B:=w.heap.size) (World.alloc_heap_new w _) hRB hSB (by decide)
 have HF1:Hid (FrR R S w w1):=(FrR.ofBelow (Bel.alloc w _)).trans f1
 have HH1:Hid (RunIs W0 w1 R S bv vals { s with fuel:=k } fr pl):=h1
 have e0:w1.cell? ⟨w.heap.size,0,none⟩=some (.int .i64 21):=by simp[World.cell?,bx]
 have e1:w1.cell? ⟨w.heap.size,1,none⟩=some (.int .i64 (d:Int)):=by simp[World.cell?,bx]
 have e2:w1.cell? ⟨w.heap.size,2,none⟩=some (.int .i64 (a:Int)):=by simp[World.cell?,bx]
 have e3:w1.cell? ⟨w.heap.size,3,none⟩=some (.int .i64 0):=by simp[World.cell?,bx]
 have e4:w1.cell? ⟨w.heap.size,4,none⟩=some (.int .i64 0):=by simp[World.cell?,bx]
 clear h1 f1 bx
 go_wp2_with fail
 refine(placeOf_any 21 (d:Int) (a:Int) 0 0 w1).mono ?_
 rintro e w2 ⟨rfl,b2⟩
 rw[hp]
 have HF2:Hid (FrR R S w w2):=HF1.out.trans (FrR.ofBelow b2)
 have HH2:Hid (RunIs W0 w2 R S bv vals { s with fuel:=k } fr pl):=HH1.out.later b2
 clear b2 e0 e1 e2 e3 e4
 have nword:=wordPlace_no
 have nconst:=constPlace_no
 have yload:=loadPlace_yes
 go_wp2_with fail
 refine(load_yes (W0:=W0) (S:=S) (bv:=bv) (vals:=vals) (s := { s with fuel:=k }) (fr:=fr) (pl:=pl) d a c hd ha hc hv _ (HH2.out.later (Bel.alloc w2 _))).mono ?_
 rintro e w4 ⟨rfl,h4,f4⟩
 have HF4:Hid (FrR R S w w4):=HF2.out.trans ((FrR.ofBelow (Bel.alloc _ _)).trans f4)
 have HH4:Hid (RunIs W0 w4 R S bv vals { s with fuel:=k,vals:=updN s.vals d (s.cells c) } fr pl):=h4
 clear h4 f4
 go_wp2
 go_ret
 exact⟨rfl,HH4.out,HF4.out⟩
set_option maxRecDepth 100000 in
set_option maxHeartbeats 4000000 in
theorem step_loadNo (d a:Nat)(ha:a<80)(hc:¬cellOk (s.vals a))(w:World)(h:RunIs W0 w R S bv vals s fr pl){k:Nat}(hf:s.fuel=k+1)(hk:k≤5000) :
  Calls Tryz.prog 92 #[.pointer (some ⟨R,0,none⟩),.agg #[.int .i64 21,.int .i64 (d:Int),.int .i64 (a:Int),.int .i64 0,.int .i64 0]] w fun e w'=>e = .returned (.int .i64 2)∧RunTo W0 R S bv vals fr pl w { s with fuel:=k } w':=by
 have hp:placeV 21 (d:Int) (a:Int) 0 0 = .iface 180 (.agg #[.int .i64 (d:Int),.int .i64 (a:Int)]):=by simp[placeV]
 have HF0:Hid (s.fuel=k+1):=hf
 have HH0:Hid (RunIs W0 w R S bv vals s fr pl):=h
 have hRB:w.heap.size≠R:=by have:=h.lt.1;omega
 have hSB:w.heap.size≠S:=by have:=h.lt.2;omega
 clear h hf
 go_enter Tryz.func92,Tryz.ntmps92
 go_wp2_with fail
 refine(burn_one (W0:=W0) (S:=S) (bv:=bv) (vals:=vals) (s:=s) (fr:=fr) (pl:=pl) _ (HH0.out.later (Bel.alloc w _)) HF0.out hk).mono ?_
 rintro e w1 ⟨rfl,h1,f1⟩
 have bx:=f1.box (B:=w.heap.size) (World.alloc_heap_new w _) hRB hSB (by decide)
 have HF1:Hid (FrR R S w w1):=(FrR.ofBelow (Bel.alloc w _)).trans f1
 have HH1:Hid (RunIs W0 w1 R S bv vals { s with fuel:=k } fr pl):=h1
 have e0:w1.cell? ⟨w.heap.size,0,none⟩=some (.int .i64 21):=by simp[World.cell?,bx]
 have e1:w1.cell? ⟨w.heap.size,1,none⟩=some (.int .i64 (d:Int)):=by simp[World.cell?,bx]
 have e2:w1.cell? ⟨w.heap.size,2,none⟩=some (.int .i64 (a:Int)):=by simp[World.cell?,bx]
 have e3:w1.cell? ⟨w.heap.size,3,none⟩=some (.int .i64 0):=by simp[World.cell?,bx]
 have e4:w1.cell? ⟨w.heap.size,4,none⟩=some (.int .i64 0):=by simp[World.cell?,bx]
 clear h1 f1 bx
 go_wp2_with fail
 refine(placeOf_any 21 (d:Int) (a:Int) 0 0 w1).mono ?_
 rintro e w2 ⟨rfl,b2⟩
 rw[hp]
 have HF2:Hid (FrR R S w w2):=HF1.out.trans (FrR.ofBelow b2)
 have HH2:Hid (RunIs W0 w2 R S bv vals { s with fuel:=k } fr pl):=HH1.out.later b2
 clear b2 e0 e1 e2 e3 e4
 have nword:=wordPlace_no
 have nconst:=constPlace_no
 have yload:=loadPlace_yes
 go_wp2_with fail
 refine(load_no (W0:=W0) (S:=S) (bv:=bv) (vals:=vals) (s := { s with fuel:=k }) (fr:=fr) (pl:=pl) d a ha hc _ (HH2.out.later (Bel.alloc w2 _))).mono ?_
 rintro e w4 ⟨rfl,h4,f4⟩
 have HF4:Hid (FrR R S w w4):=HF2.out.trans ((FrR.ofBelow (Bel.alloc _ _)).trans f4)
 have HH4:Hid (RunIs W0 w4 R S bv vals { s with fuel:=k } fr pl):=h4
 clear h4 f4
 go_wp2
 go_ret
 exact⟨rfl,HH4.out,HF4.out⟩
set_option maxRecDepth 100000 in
set_option maxHeartbeats 4000000 in
theorem step_store (a b c:Nat)(ha:a<80)(hb:b<80)(hc:c<8)(hv:s.vals a=(c:Int))(w:World)(h:RunIs W0 w R S bv vals s fr pl){k:Nat}(hf:s.fuel=k+1)(hk:k≤5000) :
  Calls Tryz.prog 92 #[.pointer (some ⟨R,0,none⟩),.agg #[.int .i64 22,.int .i64 0,.int .i64 (a:Int),.int .i64 (b:Int),.int .i64 0]] w fun e w'=>e = .returned (.int .i64 0)∧RunTo W0 R S bv vals fr pl w { s with fuel:=k,cells:=updN s.cells c (s.vals b) } w':=by
 have hp:placeV 22 0 (a:Int) (b:Int) 0 = .iface 182 (.agg #[.int .i64 (a:Int),.int .i64 (b:Int)]):=by simp[placeV]
 have HF0:Hid (s.fuel=k+1):=hf
 have HH0:Hid (RunIs W0 w R S bv vals s fr pl):=h
 have hRB:w.heap.size≠R:=by have:=h.lt.1;omega
 have hSB:w.heap.size≠S:=by have:=h.lt.2;omega
 clear h hf
 go_enter Tryz.func92,Tryz.ntmps92
 go_wp2_with fail
 refine(burn_one (W0:=W0) (S:=S) (bv:=bv) (vals:=vals) (s:=s) (fr:=fr) (pl:=pl) _ (HH0.out.later (Bel.alloc w _)) HF0.out hk).mono ?_
 rintro e w1 ⟨rfl,h1,f1⟩
 have bx:=f1.box (B:=w.heap.size) (World.alloc_heap_new w _) hRB hSB (by decide)
 have HF1:Hid (FrR R S w w1):=(FrR.ofBelow (Bel.alloc w _)).trans f1
 have HH1:Hid (RunIs W0 w1 R S bv vals { s with fuel:=k } fr pl):=h1
 have e0:w1.cell? ⟨w.heap.size,0,none⟩=some (.int .i64 22):=by simp[World.cell?,bx]
 have e1:w1.cell? ⟨w.heap.size,1,none⟩=some (.int .i64 0):=by simp[World.cell?,bx]
 have e2:w1.cell? ⟨w.heap.size,2,none⟩=some (.int .i64 (a:Int)):=by simp[World.cell?,bx]
 have e3:w1.cell? ⟨w.heap.size,3,none⟩=some (.int .i64 (b:Int)):=by simp[World.cell?,bx]
 have e4:w1.cell? ⟨w.heap.size,4,none⟩=some (.int .i64 0):=by simp[World.cell?,bx]
 clear h1 f1 bx
 go_wp2_with fail
 refine(placeOf_any 22 0 (a:Int) (b:Int) 0 w1).mono ?_
 rintro e w2 ⟨rfl,b2⟩
 rw[hp]
 have HF2:Hid (FrR R S w w2):=HF1.out.trans (FrR.ofBelow b2)
 have HH2:Hid (RunIs W0 w2 R S bv vals { s with fuel:=k } fr pl):=HH1.out.later b2
 clear b2 e0 e1 e2 e3 e4
 have nword:=wordPlace_no
 have nconst:=constPlace_no
 have nload:=loadPlace_no
 have ystore:=storePlace_yes
 go_wp2_with fail
 refine(store_yes (W0:=W0) (S:=S) (bv:=bv) (vals:=vals) (s := { s with fuel:=k }) (fr:=fr) (pl:=pl) a b c ha hb hc hv _ (HH2.out.later (Bel.alloc w2 _))).mono ?_
 rintro e w4 ⟨rfl,h4,f4⟩
 have HF4:Hid (FrR R S w w4):=HF2.out.trans ((FrR.ofBelow (Bel.alloc _ _)).trans f4)
 have HH4:Hid (RunIs W0 w4 R S bv vals { s with fuel:=k,cells:=updN s.cells c (s.vals b) } fr pl):=h4
 clear h4 f4
 go_wp2
 go_ret
 exact⟨rfl,HH4.out,HF4.out⟩
set_option maxRecDepth 100000 in
set_option maxHeartbeats 4000000 in
theorem step_storeNo (a b:Nat)(ha:a<80)(hc:¬cellOk (s.vals a))(w:World)(h:RunIs W0 w R S bv vals s fr pl){k:Nat}(hf:s.fuel=k+1)(hk:k≤5000) :
  Calls Tryz.prog 92 #[.pointer (some ⟨R,0,none⟩),.agg #[.int .i64 22,.int .i64 0,.int .i64 (a:Int),.int .i64 (b:Int),.int .i64 0]] w fun e w'=>e = .returned (.int .i64 2)∧RunTo W0 R S bv vals fr pl w { s with fuel:=k } w':=by
 have hp:placeV 22 0 (a:Int) (b:Int) 0 = .iface 182 (.agg #[.int .i64 (a:Int),.int .i64 (b:Int)]):=by simp[placeV]
 have HF0:Hid (s.fuel=k+1):=hf
 have HH0:Hid (RunIs W0 w R S bv vals s fr pl):=h
 have hRB:w.heap.size≠R:=by have:=h.lt.1;omega
 have hSB:w.heap.size≠S:=by have:=h.lt.2;omega
 clear h hf
 go_enter Tryz.func92,Tryz.ntmps92
 go_wp2_with fail
 refine(burn_one (W0:=W0) (S:=S) (bv:=bv) (vals:=vals) (s:=s) (fr:=fr) (pl:=pl) _ (HH0.out.later (Bel.alloc w _)) HF0.out hk).mono ?_
 rintro e w1 ⟨rfl,h1,f1⟩
 have bx:=f1.box (B:=w.heap.size) (World.alloc_heap_new w _) hRB hSB (by decide)
 have HF1:Hid (FrR R S w w1):=(FrR.ofBelow (Bel.alloc w _)).trans f1
 have HH1:Hid (RunIs W0 w1 R S bv vals { s with fuel:=k } fr pl):=h1
 have e0:w1.cell? ⟨w.heap.size,0,none⟩=some (.int .i64 22):=by simp[World.cell?,bx]
 have e1:w1.cell? ⟨w.heap.size,1,none⟩=some (.int .i64 0):=by simp[World.cell?,bx]
 have e2:w1.cell? ⟨w.heap.size,2,none⟩=some (.int .i64 (a:Int)):=by simp[World.cell?,bx]
 have e3:w1.cell? ⟨w.heap.size,3,none⟩=some (.int .i64 (b:Int)):=by simp[World.cell?,bx]
 have e4:w1.cell? ⟨w.heap.size,4,none⟩=some (.int .i64 0):=by simp[World.cell?,bx]
 clear h1 f1 bx
 go_wp2_with fail
 refine(placeOf_any 22 0 (a:Int) (b:Int) 0 w1).mono ?_
 rintro e w2 ⟨rfl,b2⟩
 rw[hp]
 have HF2:Hid (FrR R S w w2):=HF1.out.trans (FrR.ofBelow b2)
 have HH2:Hid (RunIs W0 w2 R S bv vals { s with fuel:=k } fr pl):=HH1.out.later b2
 clear b2 e0 e1 e2 e3 e4
 have nword:=wordPlace_no
 have nconst:=constPlace_no
 have nload:=loadPlace_no
 have ystore:=storePlace_yes
 go_wp2_with fail
 refine(store_no (W0:=W0) (S:=S) (bv:=bv) (vals:=vals) (s := { s with fuel:=k }) (fr:=fr) (pl:=pl) a b ha hc _ (HH2.out.later (Bel.alloc w2 _))).mono ?_
 rintro e w4 ⟨rfl,h4,f4⟩
 have HF4:Hid (FrR R S w w4):=HF2.out.trans ((FrR.ofBelow (Bel.alloc _ _)).trans f4)
 have HH4:Hid (RunIs W0 w4 R S bv vals { s with fuel:=k } fr pl):=h4
 clear h4 f4
 go_wp2
 go_ret
 exact⟨rfl,HH4.out,HF4.out⟩
def stepDo (x:InsD)(s:RunS):Int × RunS:=if s.fuel=0 then(1,s) else insDo wordV x { s with fuel:=s.fuel-1 }
theorem val_nat {vals v:Int}(h:valIn vals v=true)(hv:vals≤80):∃n:Nat,v=(n:Int)∧n<80:=by
 simp[valIn] at h
 exact⟨v.toNat,by omega,by omega⟩
theorem cell_nat {v:Int}(h:cellOk v):∃n:Nat,v=(n:Int)∧n<8:=⟨v.toNat,by unfold cellOk at h;omega,by unfold cellOk at h;omega⟩
theorem step_any (x:InsD)(hv:vals≤80)(hx:placeOkV vals x=true)(w:World)(h:RunIs W0 w R S bv vals s fr pl)(hk:s.fuel≤5000)(hl:s.told.length≤5000) :
  Calls Tryz.prog 92 #[.pointer (some ⟨R,0,none⟩),.agg #[.int .i64 x.op,.int .i64 x.d,.int .i64 x.a,.int .i64 x.b,.int .i64 x.n]] w fun e w'=>e = .returned (.int .i64 (stepDo x s).1)∧RunTo W0 R S bv vals fr pl w (stepDo x s).2 w':=by
 obtain⟨op,d,a,b,n⟩:=x
 dsimp only
 unfold placeOkV at hx
 dsimp only at hx
 by_cases hf:s.fuel=0
 ·have e:stepDo ⟨op,d,a,b,n⟩ s=(1,s):=if_pos hf
  rw[e]
  exact step_fuel op d a b n w h hf
 ·obtain⟨k,hk2⟩:∃k,s.fuel=k+1:=⟨s.fuel-1,by omega⟩
  have e:stepDo ⟨op,d,a,b,n⟩ s=insDo wordV ⟨op,d,a,b,n⟩ { s with fuel:=k }:=by
   unfold stepDo
   rw[if_neg hf]
   have:s.fuel-1=k:=by omega
   rw[this]
  rw[e]
  clear e
  rcases op_cases op with h0 | h0 | h0 | h0 | h0 | h0 | ⟨⟨e0,e1,e2,e3,e4,e5⟩,⟨hq,hq1⟩ | hq | ⟨hq1,hq⟩⟩
  ·subst h0
   rw[insOkV_const] at hx
   simp only[Bool.and_eq_true,beq_iff_eq] at hx
   obtain⟨⟨hd,rfl⟩,rfl⟩:=hx
   obtain⟨dn,rfl,hdn⟩:=val_nat hd hv
   have ei:insDo wordV ⟨20,(dn:Int),0,0,n⟩ { s with fuel:=k }=(0,{ s with fuel:=k,vals:=updN s.vals dn n }):=by simp[insDo,RunS.setV]
   rw[ei]
   exact step_const dn n hdn w h hk2 (by omega)
  ·subst h0
   rw[insOkV_load] at hx
   simp only[Bool.and_eq_true,beq_iff_eq] at hx
   obtain⟨⟨⟨hd,ha⟩,rfl⟩,rfl⟩:=hx
   obtain⟨dn,rfl,hdn⟩:=val_nat hd hv
   obtain⟨an,rfl,han⟩:=val_nat ha hv
   by_cases hc:cellOk (s.vals an)
   ·obtain⟨cn,hcn,hc8⟩:=cell_nat hc
    have ei:insDo wordV ⟨21,(dn:Int),(an:Int),0,0⟩ { s with fuel:=k }=(0,{ s with fuel:=k,vals:=updN s.vals dn (s.cells cn) }):=by
     rw[hcn] at hc
     simp[insDo,RunS.setV,RunS.val,hcn,hc]
    rw[ei]
    exact step_load dn an cn hdn han hc8 hcn w h hk2 (by omega)
   ·have ei:insDo wordV ⟨21,(dn:Int),(an:Int),0,0⟩ { s with fuel:=k }=(2,{ s with fuel:=k }):=by simp[insDo,RunS.val,hc]
    rw[ei]
    exact step_loadNo dn an han hc w h hk2 (by omega)
  ·subst h0
   rw[insOkV_store] at hx
   simp only[Bool.and_eq_true,beq_iff_eq] at hx
   obtain⟨⟨⟨ha,hb⟩,rfl⟩,rfl⟩:=hx
   obtain⟨an,rfl,han⟩:=val_nat ha hv
   obtain⟨bn,rfl,hbn⟩:=val_nat hb hv
   by_cases hc:cellOk (s.vals an)
   ·obtain⟨cn,hcn,hc8⟩:=cell_nat hc
    have ei:insDo wordV ⟨22,0,(an:Int),(bn:Int),0⟩ { s with fuel:=k }=(0,{ s with fuel:=k,cells:=updN s.cells cn (s.vals bn) }):=by
     rw[hcn] at hc
     simp[insDo,RunS.val,hcn,hc]
    rw[ei]
    exact step_store an bn cn han hbn hc8 hcn w h hk2 (by omega)
   ·have ei:insDo wordV ⟨22,0,(an:Int),(bn:Int),0⟩ { s with fuel:=k }=(2,{ s with fuel:=k }):=by simp[insDo,RunS.val,hc]
    rw[ei]
    exact step_storeNo an bn han hc w h hk2 (by omega)
  ·subst h0
   rw[insOkV_out] at hx
   simp only[Bool.and_eq_true,beq_iff_eq] at hx
   obtain⟨⟨⟨ha,rfl⟩,rfl⟩,rfl⟩:=hx
   obtain⟨an,rfl,han⟩:=val_nat ha hv
   have ei:insDo wordV ⟨23,0,(an:Int),0,0⟩ { s with fuel:=k }=(0,{ s with fuel:=k,told:=s.told ++ [s.vals an] }):=by simp[insDo,RunS.val]
   rw[ei]
   exact step_out an han hl w h hk2 (by omega)
  ·subst h0
   rw[insOkV_read] at hx
   simp only[Bool.and_eq_true,beq_iff_eq] at hx
   obtain⟨⟨⟨hd,rfl⟩,rfl⟩,rfl⟩:=hx
   obtain⟨dn,rfl,hdn⟩:=val_nat hd hv
   have ei:insDo wordV ⟨24,(dn:Int),0,0,0⟩ { s with fuel:=k }=(0,{ s with fuel:=k,vals:=updN s.vals dn (s.reads.headD 0),reads:=s.reads.tail }):=by simp[insDo,RunS.setV]
   rw[ei]
   exact step_read dn hdn w h hk2 (by omega)
  ·subst h0
   rw[insOkV_copy] at hx
   simp only[Bool.and_eq_true,beq_iff_eq] at hx
   obtain⟨⟨⟨hd,ha⟩,rfl⟩,rfl⟩:=hx
   obtain⟨dn,rfl,hdn⟩:=val_nat hd hv
   obtain⟨an,rfl,han⟩:=val_nat ha hv
   have ei:insDo wordV ⟨25,(dn:Int),(an:Int),0,0⟩ { s with fuel:=k }=(0,{ s with fuel:=k,vals:=updN s.vals dn (s.vals an) }):=by simp[insDo,RunS.setV,RunS.val]
   rw[ei]
   exact step_copy dn an hdn han w h hk2 (by omega)
  ·rw[insOkV_word hq hq1] at hx
   simp only[Bool.and_eq_true,beq_iff_eq] at hx
   obtain⟨⟨⟨hd,ha⟩,hb⟩,rfl⟩:=hx
   obtain⟨dn,rfl,hdn⟩:=val_nat hd hv
   obtain⟨an,rfl,han⟩:=val_nat ha hv
   obtain⟨bn,rfl,hbn⟩:=val_nat hb hv
   have ei:insDo wordV ⟨op,(dn:Int),(an:Int),(bn:Int),0⟩ { s with fuel:=k }=(0,{ s with fuel:=k,vals:=updN s.vals dn (wordV op (s.vals an) (s.vals bn)) }):=by simp[insDo,RunS.setV,RunS.val,hq,hq1]
   rw[ei]
   exact step_word op dn an bn hdn han hbn e0 e1 e2 e3 e4 e5 hq hq1 w h hk2 (by omega)
  ·rw[insOkV_none e0 e1 e2 e3 e4 e5 (by omega)] at hx
   cases hx
  ·rw[insOkV_none e0 e1 e2 e3 e4 e5 (by omega)] at hx
   cases hx
end
def valsC (f:Nat→Int):List Value:=(List.range 80).map (fun i=>Value.int .i64 (f i))
theorem valsC_len (f:Nat→Int):(valsC f).length=80:=by simp[valsC]
theorem valsC_at (f:Nat→Int){i:Nat}(h:i<80):(valsC f)[i]? = some (.int .i64 (f i)):=by simp[valsC,h]
theorem valsC_one (f:Nat→Int):∀v∈valsC f,v.oneCell'=true:=by
 intro v hv
 obtain⟨a,_,rfl⟩:=List.mem_map.1 hv
 rfl
theorem RunCells.range {w:World}{R S:Nat}{bv:Value}{vals:Int}{vs cs:Nat→Int}{fuel fr pl:Int}{rv tv pv:Value}(h:RunCells w R S bv vals vs cs fuel fr pl rv tv pv):w.rangeAt R 14 (valsC vs):=fun j v hv=>by
 have hj:j<80:=by have:=(List.getElem?_eq_some_iff.1 hv).1;rw[valsC_len] at this;exact this
 rw[valsC_at _ hj] at hv
 cases hv
 exact h.cv j hj
theorem info_vals : (Tryz.prog.info? 83).map (·.size)=some 80:=by kernel_rfl
theorem armsDo_snoc (fr:Int)(before:Nat→Int)(d:Int)(l:List ArmD)(a:ArmD)(v:Nat→Int):armsDo fr before d (l ++ [a]) v=if a.fr=fr then updN (armsDo fr before d l v) d.toNat (before a.v.toNat) else armsDo fr before d l v:=by simp[armsDo]
theorem phisDo_snoc (fr:Int)(before:Nat→Int)(l:List PhiD)(p:PhiD)(v:Nat→Int):phisDo fr before (l ++ [p]) v=armsDo fr before p.d p.arms (phisDo fr before l v):=by simp[phisDo]
theorem take_snoc {α:Type}{l:List α}{k:Nat}{x:α}(h:l[k]? = some x):l.take (k+1)=l.take k ++ [x]:=by rw[List.take_add_one,h];rfl
section
variable {W0:World} {R S:Nat} {bv:Value} {vals:Int} {s:RunS} {fr pl:Int}
set_option maxRecDepth 100000 in
set_option maxHeartbeats 4000000 in
theorem rphis_any (nb:Int)(lv:Value)(ps:List PhiD)(hv:vals≤80)(hps:ListAt 0 2 (PhiAt 0) W0 lv ps)(hok:∀(j:Nat) p,ps[j]? = some p→PhiOk nb vals p)(w:World)(h:RunIs W0 w R S bv vals s fr pl) :
  Calls Tryz.prog 148 #[.pointer (some ⟨R,0,none⟩),lv] w fun e w'=>(∃v,e = .returned v)∧RunTo W0 R S bv vals fr pl w { s with vals:=phisDo fr s.vals ps s.vals } w':=by
 obtain⟨a0,cap,rfl,hm,hc⟩:=hps
 obtain⟨n,HN⟩:∃n,Hid (ps.length=n):=⟨_,rfl⟩
 rw[HN.out] at hm hc ⊢
 have HC:Hid (0<n→∃b off,a0=some ⟨b,off,none⟩∧0≤b∧∀i x,ps[i]? = some x→PhiAt 0 W0 b (off+i*2) x):=hc
 have HOK:Hid (∀(j:Nat) p,ps[j]? = some p→PhiOk nb vals p):=hok
 have HH0:Hid (RunIs W0 w R S bv vals s fr pl):=h
 obtain⟨rv,tv,pv,h0⟩:=h
 have hrange:=h0.cells.range
 have hRl:=h0.cells.lt.1
 have hSl:=h0.cells.lt.2
 obtain⟨c',hc'⟩:∃c',(valsC s.vals).toArray=c':=⟨_,rfl⟩
 have hcs':c'.size=80:=by rw[←hc'];simp[valsC_len]
 have H1:Hid (c'.all (·.oneCell')=true):=by
  show c'.all (·.oneCell')=true
  rw[←hc'];exact all_oneCell_toArray (valsC_one _)
 have HC':Hid ((valsC s.vals).toArray=c'):=hc'
 clear hc hok h0 hc'
 go_enter Tryz.func148,Tryz.ntmps148
 go_wp2_with (first
  | (refine wpList_load_mid rfl 83 _ rfl R 14 rfl (valsC s.vals) _ hrange Tryz.underlying83 rfl (by rw[valsC_len];exact info_vals) ?_;rw[HC'.out])
  | refine wpList_store_row rfl 83 _ _ rfl w.heap.size _ c' _ rfl rfl (heap_last rfl) (by rw[hcs'];exact info_vals) (by rw[hcs'];rfl) H1.out ?_)
 have hw1:Below w.heap.size w ((w.alloc (.cells Tryz.zeroCells83 83)).setRow w.heap.size c'):=below_setRow (Bel.alloc w _) (Nat.le_refl _) _
 have hx1:((w.alloc (.cells Tryz.zeroCells83 83)).setRow w.heap.size c').heap[w.heap.size]? = some (.cells c' 83 (0,0)):=setRow_heap _ _ _ _ _ _ (heap_last rfl)
 generalize (w.alloc (.cells Tryz.zeroCells83 83)).setRow w.heap.size c'=w1 at hw1 hx1 ⊢
 have hRB:R≠w.heap.size:=by omega
 have hSB:S≠w.heap.size:=by omega
 have HF1:Hid (FrR R S w w1):=FrR.ofBelow hw1
 have HH1:Hid (RunIs W0 w1 R S bv vals s fr pl):=HH0.out.later hw1
 have HX1:Hid (w1.heap[w.heap.size]? = some (.cells c' 83 (0,0))):=hx1
 have HBC:Hid (∀W,FrR R S w1 W→∀i,i<80→W.cell? ⟨w.heap.size,i,none⟩=some (.int .i64 (s.vals i))):=fun W hW i hi=>by
  have hb:=hW.box HX1.out (fun e=>hRB e.symm) (fun e=>hSB e.symm) (by decide)
  have:c'[i]? = some (.int .i64 (s.vals i)):=by rw[←HC'.out];simpa using valsC_at s.vals hi
  simp[World.cell?,hb,this]
 generalize w.heap.size=B at *
 clear hw1 hx1 hrange hRl hSl
 go_loopw [15] (fun i wr=>∃k:Nat,k≤n∧i = .int .i64 k∧RunIs W0 wr R S bv vals { s with vals:=phisDo fr s.vals (ps.take k) s.vals } fr pl∧FrR R S w1 wr) (fun i _=>n-(intOf i).toNat)
 case atStart=>exact⟨0,Nat.zero_le _,rfl,HH1.out,FrR.refl _ _ _⟩
 case round=>
  obtain⟨k,hk,rfl,hr,hfr⟩:=hrel
  have HR:Hid (RunIs W0 wr R S bv vals { s with vals:=phisDo fr s.vals (ps.take k) s.vals } fr pl):=hr
  have HFR:Hid (FrR R S w1 wr):=hfr
  clear hr hfr
  by_cases hlt2:(k:Int)<(n:Int)
  ·obtain⟨b,off,rfl,_,hcc⟩:=HC.out (by omega)
   obtain⟨p,hpk⟩:∃p,ps[k]? = some p:=⟨_,List.getElem?_eq_getElem (by have:=HN.out;omega)⟩
   obtain⟨q1,av,q2,hav⟩:=hcc k p hpk
   have hpo:=HOK.out k p hpk
   obtain⟨aa,acap,rfl,ham,hac⟩:=hav
   obtain⟨pd,arms⟩:=p
   dsimp only at q1 q2 ham hac hpo
   obtain⟨m,HM⟩:∃m,Hid (arms.length=m):=⟨_,rfl⟩
   rw[HM.out] at ham hac q2
   obtain⟨dn,rfl,hdn⟩:=val_nat hpo.1 hv
   have HA:Hid (0<m→∃b off,aa=some ⟨b,off,none⟩∧0≤b∧∀i x,arms[i]? = some x→ArmAt W0 b (off+i*2) x):=hac
   have HAO:Hid (ArmsOk nb vals arms arms.length):=hpo.2.2
   have HPK:Hid (ps[k]? = some ⟨(dn:Int),arms⟩):=hpk
   have hbel:Below W0.heap.size W0 wr:=by obtain⟨_,_,_,h⟩:=HR.out;exact h.below
   have r1:=Bel.keeps hbel q1
   have r2:=Bel.keeps hbel q2
   have hdn2:(dn:Int)<80:=by omega
   clear q1 q2 hac hpo hpk hcc hbel
   go_wp2_with fail
   have bx:=World.alloc_heap_new wr (.cells #[.int .i64 (dn:Int),.slice aa m acap] 74)
   have HR2:Hid (RunIs W0 (wr.alloc (.cells #[.int .i64 (dn:Int),.slice aa m acap] 74)) R S bv vals { s with vals:=phisDo fr s.vals (ps.take k) s.vals } fr pl):=HR.out.later (Bel.alloc _ _)
   have HF2:Hid (FrR R S w1 (wr.alloc (.cells #[.int .i64 (dn:Int),.slice aa m acap] 74))):=HFR.out.trans (FrR.ofBelow (Bel.alloc _ _))
   have hRC:wr.heap.size≠R:=by have:=HR.out.lt.1;omega
   have hSC:wr.heap.size≠S:=by have:=HR.out.lt.2;omega
   generalize wr.alloc (.cells #[.int .i64 (dn:Int),.slice aa m acap] 74)=w2 at bx HR2 HF2 ⊢
   generalize wr.heap.size=C at bx hRC hSC ⊢
   have HBX:Hid (w2.heap[C]? = some (.cells #[.int .i64 (dn:Int),.slice aa m acap] 74 (0,0))):=bx
   clear bx r1 r2 HR HFR
   go_loopw [22] (fun i wr=>∃j:Nat,j≤m∧i = .int .i64 j∧RunIs W0 wr R S bv vals { s with vals:=armsDo fr s.vals (dn:Int) (arms.take j) (phisDo fr s.vals (ps.take k) s.vals) } fr pl∧FrR R S w2 wr) (fun i _=>m-(intOf i).toNat)
   case atStart=>exact⟨0,Nat.zero_le _,rfl,HR2.out,FrR.refl _ _ _⟩
   case round=>
    obtain⟨j,hj,rfl,hr,hfr⟩:=hrel
    have HR:Hid (RunIs W0 wr R S bv vals { s with vals:=armsDo fr s.vals (dn:Int) (arms.take j) (phisDo fr s.vals (ps.take k) s.vals) } fr pl):=hr
    have HFR:Hid (FrR R S w2 wr):=hfr
    clear hr hfr
    by_cases hlt3:(j:Int)<(m:Int)
    ·obtain⟨ab,aoff,rfl,_,hcc⟩:=HA.out (by omega)
     obtain⟨x,hxk⟩:∃x,arms[j]? = some x:=⟨_,List.getElem?_eq_getElem (by have:=HM.out;omega)⟩
     obtain⟨q1,q2⟩:=hcc j x hxk
     have hao:=HAO.out j x (by have:=HM.out;omega) hxk
     obtain⟨af,xv⟩:=x
     dsimp only at q1 q2 hao
     obtain⟨vn,rfl,hvn⟩:=val_nat hao.2.1 hv
     have HXK:Hid (arms[j]? = some ⟨af,(vn:Int)⟩):=hxk
     have hbel:Below W0.heap.size W0 wr:=by obtain⟨_,_,_,h⟩:=HR.out;exact h.below
     have r1:=Bel.keeps hbel q1
     have r2:=Bel.keeps hbel q2
     have hvn2:(vn:Int)<80:=by omega
     clear q1 q2 hao hxk hcc hbel
     go_wp2_with fail
     have bx:=World.alloc_heap_new wr (.cells #[.int .i64 af,.int .i64 (vn:Int)] 146)
     obtain⟨x0,x1⟩:=box2 wr (.int .i64 af) (.int .i64 (vn:Int)) 146
     have hr3:=HR.out.later (Bel.alloc wr (.cells #[.int .i64 af,.int .i64 (vn:Int)] 146))
     have hf3:=HFR.out.trans (FrR.ofBelow (R:=R) (S:=S) (Bel.alloc wr (.cells #[.int .i64 af,.int .i64 (vn:Int)] 146)))
     have hRD:R≠wr.heap.size:=by have:=HR.out.lt.1;omega
     generalize wr.alloc (.cells #[.int .i64 af,.int .i64 (vn:Int)] 146)=w3 at bx x0 x1 hr3 hf3 ⊢
     generalize wr.heap.size=D at bx x0 x1 hRD ⊢
     have hbx:=hf3.box HBX.out hRC hSC (by decide)
     have y0:w3.cell? ⟨C,0,none⟩=some (.int .i64 (dn:Int)):=by simp[World.cell?,hbx]
     have z0:=HBC.out w3 (HF2.out.trans hf3) vn hvn
     obtain⟨zv,HZV⟩:∃z,Hid (s.vals vn=z):=⟨_,rfl⟩
     rw[HZV.out] at z0
     have HF3:Hid (FrR R S w2 w3):=hf3
     obtain⟨rv2,tv2,pv2,h3⟩:=hr3
     have g13:=h3.cells.c13
     have gs0:=h3.cells.s0
     have gv:=h3.cells.cv dn hdn
     have fz:=h3.frozen (14+dn)
     obtain⟨gz,HGZ⟩:∃z,Hid (({ s with vals:=armsDo fr s.vals (dn:Int) (arms.take j) (phisDo fr s.vals (ps.take k) s.vals) }:RunS).vals dn=z):=⟨_,rfl⟩
     rw[HGZ.out] at gv
     have HH3:Hid (RunAt W0 w3 R S bv vals { s with vals:=armsDo fr s.vals (dn:Int) (arms.take j) (phisDo fr s.vals (ps.take k) s.vals) } fr pl rv2 tv2 pv2):=h3
     clear bx hf3 h3 hbx
     by_cases hfe:af=fr
     ·subst hfe
      go_region_held3 (fun w'=>w'.cell? ⟨D,0,none⟩=some (.int .i64 af)∧w'.cell? ⟨R,13,none⟩=some (.pointer (some ⟨S,0,none⟩))∧w'.cell? ⟨S,0,none⟩=some (.int .i64 af)) (go_keep) (fail)
      simp only[Exit.then]
      go_at_K
      go_wp2_with fail
      go_region_held3 (fun w'=>w'.cell? ⟨C,0,none⟩=some (.int .i64 (dn:Int))∧w'.cell? ⟨D,1,none⟩=some (.int .i64 (vn:Int))∧w'.cell? ⟨B,vn,none⟩=some (.int .i64 zv)) (first | exact⟨far_block y0 (fun e=>hRC e.symm),far_block x1 hRD,far_block z0 hRB⟩ | go_keep) (fail)
      simp only[Exit.inBlock,Exit.then]
      go_at_K
      go_wp2_with fail
      go_roundw
      case rel=>
       refine⟨j+1,by omega,by go_num,⟨rv2,tv2,pv2,?_⟩,?_⟩
       ·have e:armsDo af s.vals (dn:Int) (arms.take (j+1)) (phisDo af s.vals (ps.take k) s.vals)=updN (armsDo af s.vals (dn:Int) (arms.take j) (phisDo af s.vals (ps.take k) s.vals)) dn zv:=by
         rw[take_snoc HXK.out,armsDo_snoc,if_pos rfl]
         have e2:s.vals ((vn:Int)).toNat=zv:=by simpa using HZV.out
         have e3:((dn:Int)).toNat=dn:=by simp
         rw[e2,e3]
        rw[e]
        first | exact(HH3.out.setVal hdn zv).drew.drew | exact(HH3.out.setVal hdn zv).drew | exact HH3.out.setVal hdn zv
       ·refine HF3.out.trans ((FrR.setR R S (14+dn) (.int .i64 zv) w3).trans ?_)
        first | exact FrR.refl _ _ _ | exact FrR.drew _ _ _ | exact(FrR.drew _ _ _).trans (FrR.drew _ _ _)
      case measure=>simp[intOf];omega
     ·have hfe2:(af == fr)=false:=by simp[hfe]
      go_region_held3 (fun w'=>w'.cell? ⟨D,0,none⟩=some (.int .i64 af)∧w'.cell? ⟨R,13,none⟩=some (.pointer (some ⟨S,0,none⟩))∧w'.cell? ⟨S,0,none⟩=some (.int .i64 fr)) (go_keep) (fail)
      simp only[Exit.then]
      go_at_K
      go_wp2_with fail
      go_roundw
      case rel=>
       refine⟨j+1,by omega,by go_num,⟨rv2,tv2,pv2,?_⟩,?_⟩
       ·have e:armsDo fr s.vals (dn:Int) (arms.take (j+1)) (phisDo fr s.vals (ps.take k) s.vals)=armsDo fr s.vals (dn:Int) (arms.take j) (phisDo fr s.vals (ps.take k) s.vals):=by
         rw[take_snoc HXK.out,armsDo_snoc,if_neg hfe]
        rw[e]
        first | exact HH3.out.drew | exact HH3.out
       ·refine HF3.out.trans ?_
        first | exact FrR.refl _ _ _ | exact FrR.drew _ _ _
      case measure=>simp[intOf];omega
    ·have hjm:j=m:=by omega
     subst hjm
     go_wp2_with fail
     go_roundw
     case rel=>
      refine⟨k+1,by omega,by go_num,?_,HF2.out.trans HFR.out⟩
      have e:arms.take j=arms:=List.take_of_length_le (by have:=HM.out;omega)
      have h4:=HR.out
      rw[e] at h4
      rw[take_snoc HPK.out,phisDo_snoc]
      exact h4
     case measure=>simp[intOf];omega
  ·have hkn:k=n:=by omega
   subst hkn
   go_wp2_with fail
   go_end0
   refine⟨⟨_,rfl⟩,?_,HF1.out.trans HFR.out⟩
   have e:ps.take k=ps:=List.take_of_length_le (by have:=HN.out;omega)
   have:=HR.out
   rw[e] at this
   exact this
theorem RunAt.far {w:World}{rv tv pv:Value}(h:RunAt W0 w R S bv vals s fr pl rv tv pv){A o:Nat}{t:TypeId}{v:Value}(hA:∃c,w.heap[A]? = some (.cells c t (0,0)))(ht:t≠3)(hR:R≠A)(hS:S≠A)(hlo:W0.heap.size≤A):RunAt W0 (w.setCell ⟨A,o,none⟩ v) R S bv vals s fr pl rv tv pv :=
 ⟨h.cells.moved (heap_setCell_other _ _ _ _ hR) (heap_setCell_other _ _ _ _ hS),h.reads,own_far h.told hA ht,own_far h.path hA ht,h.apart,h.below.setCell (p:=⟨A,o,none⟩) hlo _,h.hR,h.hS⟩
theorem FrR.new {w x:World}(h:FrR R S w x){A o:Nat}{v:Value}(hA:w.heap.size≤A):FrR R S w (x.setCell ⟨A,o,none⟩ v) :=
 ⟨by simpa using h.size,fun k ob hk h1 h2 h3=>by
  have:=(Array.getElem?_eq_some_iff.1 hk).1
  rw[heap_setCell_other _ _ _ _ (by show k≠A;omega)]
  exact h.block k ob hk h1 h2 h3⟩
set_option maxRecDepth 100000 in
set_option maxHeartbeats 4000000 in
theorem enter_any (F:FnD)(bn:Nat)(x:BlockD)(hF:FnAt W0 (.agg #[bv,.int .i64 vals]) F)(hx:F.blocks[bn]? = some x)(hok:BlockOk (F.blocks.length:Int) vals x)(hv:vals≤80)(hl:s.path.length≤5000)(w:World)(h:RunIs W0 w R S bv vals s fr pl) :
  Calls Tryz.prog 91 #[.pointer (some ⟨R,0,none⟩),.int .i64 (bn:Int)] w fun e w'=>(∃pa np pcap lv,e = .returned (.agg #[.slice pa np pcap,lv,.int .i64 x.term.k,.int .i64 x.term.a,.int .i64 x.term.t,.int .i64 x.term.e])∧ListAt 0 5 InsAt W0 lv x.list)∧RunTo W0 R S bv vals (bn:Int) 0 w (enterDo x bn fr s) w':=by
 obtain⟨bv',he,ba,bcap,hbv,hm,hc⟩:=hF
 have ebv:bv = .slice ba F.blocks.length bcap:=by
  have:bv=bv':=by simp at he;exact he.1
  rw[this];exact hbv
 clear he hbv
 subst ebv
 have hbl:bn<F.blocks.length:=(List.getElem?_eq_some_iff.1 hx).1
 obtain⟨b,off,rfl,_,hel⟩:=hc (by omega)
 obtain⟨pv,lv,b0,b1,b2,b3,b4,b5,hps,hls⟩:=hel bn x hx
 obtain⟨pa,pcap,rfl,hpm,hpc⟩:=id hps
 obtain⟨la,lcap,rfl,hlm,hlc⟩:=id hls
 obtain⟨ps,ls,tk,ta,tt,te⟩:=x
 dsimp only at b0 b1 b2 b3 b4 b5 hps hls hok ⊢
 have HPS:Hid (ListAt 0 2 (PhiAt 0) W0 (.slice pa ps.length pcap) ps):=hps
 have HLS:Hid (ListAt 0 5 InsAt W0 (.slice la ls.length lcap) ls):=hls
 have HOK:Hid (∀(j:Nat) p,ps[j]? = some p→PhiOk (F.blocks.length:Int) vals p):=hok.2.2.1
 have HH0:Hid (RunIs W0 w R S (.slice (some ⟨b,off,none⟩) F.blocks.length bcap) vals s fr pl):=h
 obtain⟨rv,tv,qv,h0⟩:=h
 have c11:=h0.cells.c11
 have hRl:=h0.cells.lt.1
 have hSl:=h0.cells.lt.2
 have hW0:=h0.below.size
 have d0:=Bel.keeps h0.below b0
 have d1:=Bel.keeps h0.below b1
 have d2:=Bel.keeps h0.below b2
 have d3:=Bel.keeps h0.below b3
 have d4:=Bel.keeps h0.below b4
 have d5:=Bel.keeps h0.below b5
 obtain⟨n,HN⟩:∃n,Hid (F.blocks.length=n):=⟨_,rfl⟩
 obtain⟨np,HNP⟩:∃n,Hid (ps.length=n):=⟨_,rfl⟩
 obtain⟨nl,HNL⟩:∃n,Hid (ls.length=n):=⟨_,rfl⟩
 rw[HN.out] at HH0 c11 hbl
 rw[HNP.out] at HPS d0
 rw[HNL.out] at HLS d1
 have hbl2:(bn:Int)<(n:Int):=by omega
 have hb2:b<w.heap.size:=World.block_lt_of_cell? w _ d0
 obtain⟨i0,hi,hz0,hz1,hz2⟩:=info_parts info_int
 have hmx:100000≤maxLen:=by decide
 clear h0 hc hel hps hls hpc hlc b0 b1 b2 b3 b4 b5 hok hx
 rw[HN.out]
 go_enter Tryz.func91,Tryz.ntmps91
 go_wp2_with fail
 have hb12:Below w.heap.size w ((w.alloc (.cells #[.slice none 0 0,.slice none 0 0,.int .i64 0,.int .i64 0,.int .i64 0,.int .i64 0] 44)).alloc (.cells #[.slice pa np pcap,.slice la nl lcap,.int .i64 tk,.int .i64 ta,.int .i64 tt,.int .i64 te] 44)):=by repeat (first | exact Below.refl _ _ | apply Below.drew | refine Below.alloc ?_ (by simp <;> omega) _ | refine Below.setCell ?_ (by simp <;> omega) _)
 refine(rphis_any (W0:=W0) (S:=S) (s:=s) (fr:=fr) (pl:=pl) (F.blocks.length:Int) _ ps hv HPS.out HOK.out _ (HH0.out.later hb12)).mono ?_
 rintro e w3 ⟨⟨v3,rfl⟩,h3,f3⟩
 have bxA:=f3.box (B:=w.heap.size) ((Below.heap_alloc _ _ _ (by simp)).trans (World.alloc_heap_new w _)) (by omega) (by omega) (by decide)
 have bxB:=f3.box (B:=w.heap.size+1) (heap_last (by simp)) (by omega) (by omega) (by decide)
 have HF3:Hid (FrR R S w w3):=(FrR.ofBelow hb12).trans f3
 have hAR:R≠w.heap.size:=by omega
 have hBR:R≠w.heap.size+1:=by omega
 have hAS:S≠w.heap.size:=by omega
 have hBS:S≠w.heap.size+1:=by omega
 have hAB:w.heap.size≠w.heap.size+1:=by omega
 clear f3 hb12 hRl hSl d0 d1 d2 d3 d4 d5 hb2 c11
 generalize w.heap.size+1=B at *
 generalize hAw:w.heap.size=A at *
 have HAw:Hid (w.heap.size≤A):=Nat.le_of_eq hAw
 clear hAw
 obtain⟨rv3,tv3,qv3,h3⟩:=h3
 have c13:=h3.cells.c13
 have c94:=h3.cells.c94
 have s0:=h3.cells.s0
 have s1:=h3.cells.s1
 have g0:=h3.frozenS 0
 have g1:=h3.frozenS 1
 have hne:=h3.cells.ne
 have h4:=(h3.setFrom (bn:Int)).setPlace 0
 have HH4:Hid (RunAt W0 ((w3.setCell ⟨S,0,none⟩ (.int .i64 (bn:Int))).setCell ⟨S,1,none⟩ (.int .i64 0)) R S (.slice (some ⟨b,off,none⟩) n bcap) vals { s with vals:=phisDo fr s.vals ps s.vals } (bn:Int) 0 rv3 tv3 qv3):=h4
 have HF4:Hid (FrR R S w ((w3.setCell ⟨S,0,none⟩ (.int .i64 (bn:Int))).setCell ⟨S,1,none⟩ (.int .i64 0))):=HF3.out.trans ((FrR.setS R S 0 _ w3).trans (FrR.setS R S 1 _ _))
 have HXA:Hid (((w3.setCell ⟨S,0,none⟩ (.int .i64 (bn:Int))).setCell ⟨S,1,none⟩ (.int .i64 0)).heap[A]? = some (.cells #[.slice none 0 0,.slice none 0 0,.int .i64 0,.int .i64 0,.int .i64 0,.int .i64 0] 44 (0,0))):=by
  show _=_
  rw[heap_setCell_other _ _ _ _ (fun e=>hAS e.symm),heap_setCell_other _ _ _ _ (fun e=>hAS e.symm)];exact bxA
 have HXB:Hid (((w3.setCell ⟨S,0,none⟩ (.int .i64 (bn:Int))).setCell ⟨S,1,none⟩ (.int .i64 0)).heap[B]? = some (.cells #[.slice pa np pcap,.slice la nl lcap,.int .i64 tk,.int .i64 ta,.int .i64 tt,.int .i64 te] 44 (0,0))):=by
  show _=_
  rw[heap_setCell_other _ _ _ _ (fun e=>hBS e.symm),heap_setCell_other _ _ _ _ (fun e=>hBS e.symm)];exact bxB
 clear h3 h4 bxA bxB
 go_wp2_with (at_builtin;refine wpList_append_own_at _ rfl _ _ 29 rfl W0.heap.size 3 i0 (.int .i64 0) 1 8 Tryz.underlying29 hi hz0 hz1 hz2 rfl (by decide) _ _ _ rfl (World.ownsRow.alloc HH4.out.path _) ⟨((w3.setCell ⟨S,0,none⟩ (.int .i64 (bn:Int))).setCell ⟨S,1,none⟩ (.int .i64 0)).heap.size,0,none⟩ 1 1 [.int .i64 (bn:Int)] (by simp[Act.eval]) rfl (cell_one_new _ _ _) (by simp[Value.oneCell']) (by simp only;omega) (by simp only;omega) (by have:=HH4.out.below.size;simp at this ⊢;omega) ?_;intro v' wa hown' hgrow _ hat;have HAT:Hid (v'.ownBlock=qv3.ownBlock∨v'.ownBlock=some (((w3.setCell ⟨S,0,none⟩ (.int .i64 (bn:Int))).setCell ⟨S,1,none⟩ (.int .i64 0)).alloc (.cells #[.int .i64 (bn:Int)] 3)).heap.size):=hat;obtain⟨g',cap',rfl⟩:=ownsRow_succ hown';have HO':Hid (OwnInts wa W0.heap.size (.slice (some ⟨g',0,none⟩) (s.path.length+1) cap') (s.path ++ [(bn:Int)])):=OwnInts.next hown';have HG:Hid ((((w3.setCell ⟨S,0,none⟩ (.int .i64 (bn:Int))).setCell ⟨S,1,none⟩ (.int .i64 0)).alloc (.cells #[.int .i64 (bn:Int)] 3)).grownBy wa qv3.ownBlock):=hgrow;have ka:=(grown_cells HH4.out HH4.out.path HG.out).1;have fa:=FrR.grown (R:=R) (S:=S) HH4.out.path HG.out;have xa:=fa.box HXA.out (fun e=>hAR e.symm) (fun e=>hAS e.symm) (by decide);have xb:=fa.box HXB.out (fun e=>hBR e.symm) (fun e=>hBS e.symm) (by decide);have KA:Hid (RunCells wa R S (.slice (some ⟨b,off,none⟩) n bcap) vals (phisDo fr s.vals ps s.vals) s.cells (s.fuel:Int) (bn:Int) 0 rv3 tv3 qv3):=ka;have HFA:Hid (FrR R S w wa):=HF4.out.trans fa;have c94':=ka.c94;have f94':=frozen_of_cells ka.row 94;have HXa:Hid (wa.heap[A]? = some (.cells #[.slice none 0 0,.slice none 0 0,.int .i64 0,.int .i64 0,.int .i64 0,.int .i64 0] 44 (0,0))):=xa;have k0:wa.cell? ⟨B,0,none⟩=some (.slice pa np pcap):=(by simp[World.cell?,xb]);have k1:wa.cell? ⟨B,1,none⟩=some (.slice la nl lcap):=(by simp[World.cell?,xb]);have k2:wa.cell? ⟨B,2,none⟩=some (.int .i64 tk):=(by simp[World.cell?,xb]);have k3:wa.cell? ⟨B,3,none⟩=some (.int .i64 ta):=(by simp[World.cell?,xb]);have k4:wa.cell? ⟨B,4,none⟩=some (.int .i64 tt):=(by simp[World.cell?,xb]);have k5:wa.cell? ⟨B,5,none⟩=some (.int .i64 te):=(by simp[World.cell?,xb]);have j0:wa.cell? ⟨A,0,none⟩=some (.slice none 0 0):=(by simp[World.cell?,xa]);have j1:wa.cell? ⟨A,1,none⟩=some (.slice none 0 0):=(by simp[World.cell?,xa]);have j2:wa.cell? ⟨A,2,none⟩=some (.int .i64 0):=(by simp[World.cell?,xa]);have j3:wa.cell? ⟨A,3,none⟩=some (.int .i64 0):=(by simp[World.cell?,xa]);have j4:wa.cell? ⟨A,4,none⟩=some (.int .i64 0):=(by simp[World.cell?,xa]);have j5:wa.cell? ⟨A,5,none⟩=some (.int .i64 0):=(by simp[World.cell?,xa]);have ja:∀o,wa.frozen? ⟨A,o,none⟩=false:=(fun o=>frozen_of_cells ⟨_,xa⟩ o);have ja0:=ja 0;have ja1:=ja 1;have ja2:=ja 2;have ja3:=ja 3;have ja4:=ja 4;have ja5:=ja 5;clear hown' hgrow ka c94 hat fa xb xa c13 s0 s1 g0 g1 ja)
 have e0:=HXa.out
 have e1:=(heap_setCell_other wa ⟨R,94,none⟩ A (.slice (some ⟨g',0,none⟩) (s.path.length+1) cap') (fun e=>hAR e.symm)).trans e0
 have e2:=heap_setCell_same _ A 0 _ _ (.slice pa np pcap) e1
 have e3:=heap_setCell_same _ A 1 _ _ (.slice la nl lcap) e2
 have e4:=heap_setCell_same _ A 2 _ _ (.int .i64 tk) e3
 have e5:=heap_setCell_same _ A 3 _ _ (.int .i64 ta) e4
 have e6:=heap_setCell_same _ A 4 _ _ (.int .i64 tt) e5
 have e7:=heap_setCell_same _ A 5 _ _ (.int .i64 te) e6
 refine bodyPost_ret (v := .agg #[.slice pa np pcap,.slice la nl lcap,.int .i64 tk,.int .i64 ta,.int .i64 tt,.int .i64 te]) (row_results rfl rfl e7 Tryz.underlying44 rfl (by kernel_rfl)) rfl ?_
 refine⟨⟨_,_,_,_,rfl,HLS.out⟩,⟨rv3,tv3,.slice (some ⟨g',0,none⟩) (s.path.length+1) cap',?_⟩,?_⟩
 ·have hA:RunAt W0 (wa.setCell ⟨R,94,none⟩ (.slice (some ⟨g',0,none⟩) (s.path.length+1) cap')) R S (.slice (some ⟨b,off,none⟩) n bcap) vals (enterDo ⟨ps,ls,tk,ta,tt,te⟩ bn fr s) (bn:Int) 0 rv3 tv3 (.slice (some ⟨g',0,none⟩) (s.path.length+1) cap') :=
   ⟨KA.out.setPath _,HH4.out.reads,own_far (grown_other HH4.out.told HG.out (fun g a b=>HH4.out.apart g b a)) KA.out.row (by decide),own_far HO'.out KA.out.row (by decide),fun g a b=>apart_new HH4.out.told (fun g a b=>HH4.out.apart g b a) HAT.out g b a,(grown_cells HH4.out HH4.out.path HG.out).2.setCell (p:=⟨R,94,none⟩) HH4.out.hR _,HH4.out.hR,HH4.out.hS⟩
  exact(((((hA.far ⟨_,e1⟩ (by decide) hAR hAS hW0).far ⟨_,e2⟩ (by decide) hAR hAS hW0).far ⟨_,e3⟩ (by decide) hAR hAS hW0).far ⟨_,e4⟩ (by decide) hAR hAS hW0).far ⟨_,e5⟩ (by decide) hAR hAS hW0).far ⟨_,e6⟩ (by decide) hAR hAS hW0
 ·exact((((((HFA.out.trans (FrR.setR R S 94 _ wa)).new HAw.out).new HAw.out).new HAw.out).new HAw.out).new HAw.out).new HAw.out
end
theorem insDo_len (W:Int→Int→Int→Int)(x:InsD)(s:RunS):(insDo W x s).2.told.length≤s.told.length+1∧(insDo W x s).2.path=s.path:=by
 unfold insDo
 repeat' split
 all_goals
  constructor
  ·first | exact Nat.le_succ _ | (show(s.told ++ [_]).length≤_;simp)
  ·rfl
def Room (s:RunS):Prop:=s.told.length+s.fuel≤5000∧s.path.length+s.fuel≤5001
theorem stepDo_room {x:InsD}{s:RunS}(h:Room s)(hh:(stepDo x s).1=0):Room (stepDo x s).2∧(stepDo x s).2.fuel+1=s.fuel:=by
 unfold stepDo at *
 by_cases hf:s.fuel=0
 ·rw[if_pos hf] at hh
  cases hh
 ·rw[if_neg hf]
  have h1:=insDo_len wordV x { s with fuel:=s.fuel-1 }
  have h2:=insDo_fuel wordV x { s with fuel:=s.fuel-1 }
  unfold Room at *
  rw[h1.2]
  dsimp only at h1 h2 ⊢
  omega
theorem term_cases {n vals:Int}{t:TermD}(h:termOkV n vals t.k t.a t.t t.e=true):(t.k=1∧0≤t.t∧t.t<n)∨(t.k=2∧0≤t.t∧t.t<n∧0≤t.e∧t.e<n∧valIn vals t.a=true)∨(t.k=3∧valIn vals t.a=true):=by
 have hk:t.k=1∨t.k=2∨t.k=3:=by
  apply Classical.byContradiction
  intro hn
  have h1:¬t.k=1:=fun h=>hn (.inl h)
  have h2:¬t.k=2:=fun h=>hn (.inr (.inl h))
  have h3:¬t.k=3:=fun h=>hn (.inr (.inr h))
  simp[termOkV,h1,h2,h3] at h
 rcases hk with e | e | e
 ·rw[e] at h
  simp[termOkV,valIn] at h
  exact .inl ⟨e,by omega,by omega⟩
 ·rw[e] at h
  simp[termOkV,valIn] at h
  exact .inr (.inl ⟨e,by omega,by omega,by omega,by omega,by simp[valIn];omega⟩)
 ·rw[e] at h
  simp[termOkV,valIn] at h
  exact .inr (.inr ⟨e,by simp[valIn];omega⟩)
theorem placesDo_step {x:InsD}{xs:List InsD}{s:RunS}:placesDo wordV (x :: xs) s=if (stepDo x s).1=0 then placesDo wordV xs (stepDo x s).2 else stepDo x s:=by
 rw[placesDo_cons]
 unfold stepDo
 by_cases h:s.fuel=0
 ·simp[h]
 ·simp only[h,if_false]
def fuelAt (R:Nat)(w:World):Nat:=match w.cell? ⟨R,1,none⟩ with | some v=>(intOf v).toNat | none=>0
def placeAt (S:Nat)(w:World):Nat:=match w.cell? ⟨S,1,none⟩ with | some v=>(intOf v).toNat | none=>0
theorem drop_at {α:Type}{l:List α}{j:Nat}{x:α}(h:l[j]? = some x):l.drop j=x :: l.drop (j+1):=by
 have hl:=(List.getElem?_eq_some_iff.1 h).1
 rw[List.drop_eq_getElem_cons hl]
 have:l[j]=x:=by rw[List.getElem?_eq_getElem hl] at h;simpa using h
 rw[this]
section
variable {W0:World} {R S:Nat} {bv:Value} {vals:Int}
theorem fuelAt_run {w:World}{s:RunS}{fr pl:Int}(h:RunIs W0 w R S bv vals s fr pl):fuelAt R w=s.fuel:=by
 obtain⟨_,_,_,h⟩:=h
 simp[fuelAt,h.cells.c1,intOf]
theorem placeAt_run {w:World}{s:RunS}{fr:Int}{pl:Nat}(h:RunIs W0 w R S bv vals s fr (pl:Int)):placeAt S w=pl:=by
 obtain⟨_,_,_,h⟩:=h
 simp[placeAt,h.cells.s1,intOf]
set_option maxRecDepth 100000 in
set_option maxHeartbeats 8000000 in
theorem all_any (F:FnD)(hF:FnAt W0 (.agg #[bv,.int .i64 vals]) F)(hS:FnShape F)(hvs:F.values=vals)(K:Nat)(st:RunS)(pl:Int)(w:World)(h:RunIs W0 w R S bv vals st (-1) pl)(hk:st.fuel<K)(hroom:Room st)(hp0:st.path.length+st.fuel≤5000) :
  Calls Tryz.prog 46 #[.pointer (some ⟨R,0,none⟩)] w fun e w'=>e = .returned (.tuple #[.int .i64 (tellN wordV F K 0 (-1) st).1,.int .i64 (tellN wordV F K 0 (-1) st).2.1])∧∃fr pl,RunIs W0 w' R S bv vals (tellN wordV F K 0 (-1) st).2.2 fr pl:=by
 obtain⟨⟨how,en,sE⟩,HRES⟩:∃r,Hid (tellN wordV F K 0 (-1) st=r):=⟨_,rfl⟩
 rw[HRES.out]
 dsimp only
 have HF:Hid (FnAt W0 (.agg #[bv,.int .i64 vals]) F):=hF
 have HSH:Hid (FnShape F):=hS
 have hv:vals≤80:=by rw[←hvs];exact hS.2.2.2.1
 have HBO:Hid (∀(j:Nat) b,F.blocks[j]? = some b→BlockOk (F.blocks.length:Int) vals b):=by
  show ∀(j:Nat) b,F.blocks[j]? = some b→BlockOk (F.blocks.length:Int) vals b
  rw[←hvs];exact hS.2.2.2.2
 have HN1:Hid (1≤F.blocks.length):=hS.1
 have HH0:Hid (RunIs W0 w R S bv vals st (-1) pl):=h
 have HROOM:Hid (Room st):=hroom
 clear hF hS h hroom
 go_enter Tryz.func46,Tryz.ntmps46
 go_wp2_with fail
 go_step3
 go_wp2_with fail
 go_step3
 go_wp2_with fail
 go_loopw [2,3,4] (fun hw ew nx wr=>∃(a:Nat) (fr pl:Int) (s:RunS) (k:Nat),hw = .int .i64 0∧ew = .int .i64 0∧nx = .int .i64 (a:Int)∧a<F.blocks.length∧s.fuel<k∧Room s∧s.path.length+s.fuel≤5000∧RunIs W0 wr R S bv vals s fr pl∧tellN wordV F k a fr s=(how,en,sE)) (fun _ _ _ wr=>fuelAt R wr)
 case atStart=>exact⟨0,-1,pl,st,K,rfl,rfl,rfl,by have:=HN1.out;omega,hk,HROOM.out,hp0,HH0.out,HRES.out⟩
 case round=>
  obtain⟨a,fr,pl2,s,k,rfl,rfl,rfl,ha,hsk,hro,hpa,hr,hte⟩:=hrel
  obtain⟨x,hx⟩:∃x,F.blocks[a]? = some x:=⟨_,List.getElem?_eq_getElem ha⟩
  have HX:Hid (F.blocks[a]? = some x):=hx
  have HR:Hid (RunIs W0 wr R S bv vals s fr pl2):=hr
  have HRO:Hid (Room s):=hro
  have HPA:Hid (s.path.length+s.fuel≤5000):=hpa
  have hbo:=HBO.out a x hx
  obtain⟨k',rfl⟩:∃k',k=k'+1:=⟨k-1,by omega⟩
  have HTE:Hid (tellN wordV F (k'+1) a fr s=(how,en,sE)):=hte
  have HSK:Hid (s.fuel<k'+1):=hsk
  clear hr hx hte hro hpa hsk
  go_wp2_with fail
  refine(enter_any (W0:=W0) (S:=S) (s:=s) (fr:=fr) (pl:=pl2) F a x HF.out HX.out hbo hv (by have:=HPA.out;omega) _ HR.out).mono ?_
  rintro e w1 ⟨⟨pa,np,pcap,lv,rfl,hls⟩,h1,f1⟩
  obtain⟨la,lcap,rfl,hlm,hlc⟩:=hls
  have HF1:Hid (fuelAt R wr=s.fuel):=fuelAt_run HR.out
  obtain⟨nl,HNL⟩:∃n,Hid (x.list.length=n):=⟨_,rfl⟩
  rw[HNL.out] at hlc hlm ⊢
  have HLC:Hid (0<nl→∃b off,la=some ⟨b,off,none⟩∧0≤b∧∀i y,x.list[i]? = some y→InsAt W0 b (off+i*5) y):=hlc
  have HR1:Hid (RunIs W0 w1 R S bv vals (enterDo x a fr s) (a:Int) 0):=h1
  have HBO2:Hid (BlockOk (F.blocks.length:Int) vals x):=hbo
  clear h1 f1 hlc hbo
  go_wp2_with fail
  have bx:=World.alloc_heap_new w1 (.cells #[.slice pa np pcap,.slice la nl lcap,.int .i64 x.term.k,.int .i64 x.term.a,.int .i64 x.term.t,.int .i64 x.term.e] 44)
  have HR2:Hid (RunIs W0 (w1.alloc (.cells #[.slice pa np pcap,.slice la nl lcap,.int .i64 x.term.k,.int .i64 x.term.a,.int .i64 x.term.t,.int .i64 x.term.e] 44)) R S bv vals (enterDo x a fr s) (a:Int) 0):=HR1.out.later (Bel.alloc _ _)
  have hRB:w1.heap.size≠R:=by have:=HR1.out.lt.1;omega
  have hSB:w1.heap.size≠S:=by have:=HR1.out.lt.2;omega
  generalize w1.alloc (.cells #[.slice pa np pcap,.slice la nl lcap,.int .i64 x.term.k,.int .i64 x.term.a,.int .i64 x.term.t,.int .i64 x.term.e] 44)=w2 at bx HR2 ⊢
  generalize w1.heap.size=B at bx hRB hSB ⊢
  have HBX:Hid (w2.heap[B]? = some (.cells #[.slice pa np pcap,.slice la nl lcap,.int .i64 x.term.k,.int .i64 x.term.a,.int .i64 x.term.t,.int .i64 x.term.e] 44 (0,0))):=bx
  have HRO1:Hid (Room (enterDo x a fr s)):=by
   have h1:=HRO.out
   have h2:=HPA.out
   show Room (enterDo x a fr s)
   refine⟨h1.1,?_⟩
   show(s.path ++ [(a:Int)]).length+s.fuel≤5001
   rw[List.length_append,List.length_singleton]
   omega
  clear bx
  go_loopw [2] (fun hw wr=>∃(j:Nat) (s2:RunS),hw = .int .i64 0∧j≤nl∧RunIs W0 wr R S bv vals s2 (a:Int) (j:Int)∧FrR R S w2 wr∧Room s2∧s2.path.length+s2.fuel≤5001∧s2.fuel≤s.fuel∧placesDo wordV (x.list.drop j) s2=blockDo wordV x a fr s) (fun _ wr=>nl-placeAt S wr)
  case atStart=>exact⟨0,_,rfl,Nat.zero_le _,HR2.out,FrR.refl _ _ _,HRO1.out,HRO1.out.2,Nat.le_refl _,rfl⟩
  case round=>
   obtain⟨j,s2,rfl,hj,hr,hf,hro,hpl,hfu,hpd⟩:=hrel
   have HR3:Hid (RunIs W0 wr R S bv vals s2 (a:Int) (j:Int)):=hr
   have HF3:Hid (FrR R S w2 wr):=hf
   have HRO3:Hid (Room s2):=hro
   have HFU:Hid (s2.fuel≤s.fuel):=hfu
   have HPD:Hid (placesDo wordV (x.list.drop j) s2=blockDo wordV x a fr s):=hpd
   have hbx:=hf.box HBX.out hRB hSB (by decide)
   have HBX3:Hid (wr.heap[B]? = some (.cells #[.slice pa np pcap,.slice la nl lcap,.int .i64 x.term.k,.int .i64 x.term.a,.int .i64 x.term.t,.int .i64 x.term.e] 44 (0,0))):=hbx
   have k1:wr.cell? ⟨B,1,none⟩=some (.slice la nl lcap):=by simp[World.cell?,hbx]
   obtain⟨rv,tv,pv,h3⟩:=hr
   have c13:=h3.cells.c13
   have s1:=h3.cells.s1
   have g1:=h3.frozenS 1
   have hbel:Hid (Below W0.heap.size W0 wr):=h3.below
   have HH3:Hid (RunAt W0 wr R S bv vals s2 (a:Int) (j:Int) rv tv pv):=h3
   clear hf hro hfu hpd hbx h3 hpl
   by_cases hlt:(j:Int)<(nl:Int)
   ·obtain⟨b,off,rfl,_,hcc⟩:=HLC.out (by omega)
    obtain⟨y,hy⟩:∃y,x.list[j]? = some y:=⟨_,List.getElem?_eq_getElem (by have:=HNL.out;omega)⟩
    obtain⟨q0,q1,q2,q3,q4⟩:=hcc j y hy
    have r0:=Bel.keeps hbel.out q0
    have r1:=Bel.keeps hbel.out q1
    have r2:=Bel.keeps hbel.out q2
    have r3:=Bel.keeps hbel.out q3
    have r4:=Bel.keeps hbel.out q4
    have HY:Hid (x.list[j]? = some y):=hy
    have HYO:Hid (placeOkV vals y=true):=HBO2.out.2.2.2.1 j y hy
    have HQ:Hid (InsAt W0 b (off+j*5) y):=⟨q0,q1,q2,q3,q4⟩
    clear q0 q1 q2 q3 q4 hy hcc
    have hst:(stepDo y s2).1=0→Room (stepDo y s2).2∧(stepDo y s2).2.fuel+1=s2.fuel:=stepDo_room HRO3.out
    have HST:Hid ((stepDo y s2).1=0→Room (stepDo y s2).2∧(stepDo y s2).2.fuel+1=s2.fuel):=hst
    have hpy:placesDo wordV (x.list.drop j) s2=if (stepDo y s2).1=0 then placesDo wordV (x.list.drop (j+1)) (stepDo y s2).2 else stepDo y s2:=by rw[drop_at HY.out];exact placesDo_step
    have HPY:Hid (blockDo wordV x a fr s=if (stepDo y s2).1=0 then placesDo wordV (x.list.drop (j+1)) (stepDo y s2).2 else stepDo y s2):=HPD.out.symm.trans hpy
    clear hst hpy
    have hfl:s2.fuel≤5000:=by have:=HRO3.out.1;omega
    have htl:s2.told.length≤5000:=by have:=HRO3.out.1;omega
    go_wp2_with fail
    go_region_held3 (fun w'=>w'.cell? ⟨R,13,none⟩=some (.pointer (some ⟨S,0,none⟩))∧w'.cell? ⟨S,1,none⟩=some (.int .i64 (j:Int))∧w'.cell? ⟨B,1,none⟩=some (.slice (some ⟨b,off,none⟩) nl lcap)) (go_keep) (fail)
    simp only[Exit.then]
    go_at_K
    go_wp2_with fail
    go_region_held3 (fun w'=>w'.cell? ⟨R,13,none⟩=some (.pointer (some ⟨S,0,none⟩))∧w'.cell? ⟨S,1,none⟩=some (.int .i64 (j:Int))∧w'.cell? ⟨B,1,none⟩=some (.slice (some ⟨b,off,none⟩) nl lcap)∧w'.cell? ⟨b,off+j*5,none⟩=some (.int .i64 y.op)∧w'.cell? ⟨b,off+j*5+1,none⟩=some (.int .i64 y.d)∧w'.cell? ⟨b,off+j*5+2,none⟩=some (.int .i64 y.a)∧w'.cell? ⟨b,off+j*5+3,none⟩=some (.int .i64 y.b)∧w'.cell? ⟨b,off+j*5+4,none⟩=some (.int .i64 y.n)) (first | exact⟨z13,zs1,zk1,z0,z1,z2,z3,z4⟩ | go_keep)
     (first | (go_at_call 92;refine(step_any (W0:=W0) (S:=S) (bv:=bv) (vals:=vals) (s:=s2) (fr:=(a:Int)) (pl:=(j:Int)) y hv HYO.out _ ⟨rv,tv,pv,by first | exact HH3.out.drew.drew | exact HH3.out.drew⟩ hfl htl).mono ?_;rintro e w4 ⟨rfl,h4,f4⟩;have HF4:Hid (FrR R S w2 w4):=(HF3.out.trans (by first | exact(FrR.drew R S wr).trans f4 | exact(FrR.drew R S wr).trans ((FrR.drew R S _).trans f4)));have hbx4:=HF4.out.box HBX.out hRB hSB (by decide);have HR4:Hid (RunIs W0 w4 R S bv vals (stepDo y s2).2 (a:Int) (j:Int)):=h4;obtain⟨rv4,tv4,pv4,h5⟩:=h4;have z13:=h5.cells.c13;have zs1:=h5.cells.s1;have zf1:=h5.frozenS 1;have zk1:w4.cell? ⟨B,1,none⟩=some (.slice (some ⟨b,off,none⟩) nl lcap):=(by simp[World.cell?,hbx4]);have z0:=Bel.keeps h5.below HQ.out.1;have z1:=Bel.keeps h5.below HQ.out.2.1;have z2:=Bel.keeps h5.below HQ.out.2.2.1;have z3:=Bel.keeps h5.below HQ.out.2.2.2.1;have z4:=Bel.keeps h5.below HQ.out.2.2.2.2;have HH4:Hid (RunAt W0 w4 R S bv vals (stepDo y s2).2 (a:Int) (j:Int) rv4 tv4 pv4):=h5;clear h5 f4 hbx4))
    simp only[Exit.then]
    go_at_K
    obtain⟨hq,HHQ⟩:∃q,Hid ((stepDo y s2).1=q):=⟨_,rfl⟩
    rw[HHQ.out]
    by_cases hq0:hq=0
    ·subst hq0
     obtain⟨hro4,hfu4⟩:=HST.out HHQ.out
     have HRO4:Hid (Room (stepDo y s2).2):=hro4
     have HFU4:Hid ((stepDo y s2).2.fuel+1=s2.fuel):=hfu4
     clear hro4 hfu4
     go_wp2_with fail
     go_roundw
     case rel=>
      refine⟨j+1,(stepDo y s2).2,rfl,by omega,⟨rv4,tv4,pv4,?_⟩,HF4.out.trans (FrR.setS R S 1 _ w4),HRO4.out,HRO4.out.2,by have:=HFU.out;have:=HFU4.out;omega,?_⟩
      ·have e:((j+1:Nat):Int)=(j:Int)+1:=by omega
       rw[e]
       exact HH4.out.setPlace _
      ·rw[HPY.out,if_pos HHQ.out]
     case measure=>
      have e1:placeAt S (w4.setCell ⟨S,1,none⟩ (.int .i64 ((j:Int)+1)))=j+1:=by
       have e:((j+1:Nat):Int)=(j:Int)+1:=by omega
       have h9:=HH4.out.setPlace ((j+1:Nat):Int)
       rw[e] at h9
       have h8:RunIs W0 (w4.setCell ⟨S,1,none⟩ (.int .i64 ((j:Int)+1))) R S bv vals (stepDo y s2).2 (a:Int) ((j+1:Nat):Int):=by rw[e];exact⟨_,_,_,h9⟩
       exact placeAt_run h8
      have e2:=placeAt_run HR3.out
      rw[e1,e2]
      omega
    ·have hq1:(hq == 0)=false:=by simp[hq0]
     go_wp2_with fail
     simp only[Exit.noGoto_ret]
     refine bodyPost_ret (v := .tuple #[.int .i64 hq,.int .i64 0]) (by simp[results,Tryz.results46,go_sem]) rfl ?_
     have hb:blockDo wordV x a fr s=stepDo y s2:=by rw[HPY.out,if_neg (by rw[HHQ.out];exact hq0)]
     have ht:=HTE.out
     rw[tellN_succ _ _ _ _ _ _ HX.out,hb,if_pos (by rw[HHQ.out];exact hq0)] at ht
     simp only[Prod.mk.injEq] at ht
     obtain⟨t1,t2,t3⟩:=ht
     rw[←t1,←t2,←t3,HHQ.out]
     exact⟨rfl,_,_,HR4.out⟩
   ·have HBD:Hid (blockDo wordV x a fr s=(0,s2)):=by
     have h9:=HPD.out
     rw[List.drop_eq_nil_of_le (by have:=HNL.out;omega)] at h9
     exact h9.symm
    go_wp2_with fail
    go_region_held3 (fun w'=>w'.cell? ⟨R,13,none⟩=some (.pointer (some ⟨S,0,none⟩))∧w'.cell? ⟨S,1,none⟩=some (.int .i64 (j:Int))∧w'.cell? ⟨B,1,none⟩=some (.slice la nl lcap)) (go_keep) (fail)
    simp only[Exit.then]
    go_at_K
    go_wp2_with fail
    by_cases hf0:s2.fuel=0
    ·refine(burn_none (W0:=W0) (S:=S) (bv:=bv) (vals:=vals) (s:=s2) (fr:=(a:Int)) (pl:=(j:Int)) _ ⟨rv,tv,pv,HH3.out.drew⟩ hf0).mono ?_
     rintro e w5 ⟨rfl,hw5⟩
     subst hw5
     go_wp2_with fail
     simp only[Exit.noGoto_ret]
     refine bodyPost_ret (v := .tuple #[.int .i64 1,.int .i64 0]) (by simp[results,Tryz.results46,go_sem]) rfl ?_
     have ht:=HTE.out
     rw[tellN_succ _ _ _ _ _ _ HX.out,HBD.out] at ht
     simp[hf0] at ht
     obtain⟨t1,t2,t3⟩:=ht
     rw[←t1,←t2,←t3]
     exact⟨rfl,_,_,⟨rv,tv,pv,HH3.out.drew⟩⟩
    ·obtain⟨kf,hkf⟩:∃kf,s2.fuel=kf+1:=⟨s2.fuel-1,by omega⟩
     refine(burn_one (W0:=W0) (S:=S) (bv:=bv) (vals:=vals) (s:=s2) (fr:=(a:Int)) (pl:=(j:Int)) _ ⟨rv,tv,pv,HH3.out.drew⟩ hkf (by have:=HRO3.out.1;omega)).mono ?_
     rintro e w5 ⟨rfl,h5,f5⟩
     have hb5:=f5.box (B:=B) HBX3.out hRB hSB (by decide)
     have HR5:Hid (RunIs W0 w5 R S bv vals { s2 with fuel:=kf } (a:Int) (j:Int)):=h5
     have k2:w5.cell? ⟨B,2,none⟩=some (.int .i64 x.term.k):=by simp[World.cell?,hb5]
     have k3:w5.cell? ⟨B,3,none⟩=some (.int .i64 x.term.a):=by simp[World.cell?,hb5]
     have k4:w5.cell? ⟨B,4,none⟩=some (.int .i64 x.term.t):=by simp[World.cell?,hb5]
     have k5:w5.cell? ⟨B,5,none⟩=some (.int .i64 x.term.e):=by simp[World.cell?,hb5]
     have HKF:Hid (s2.fuel=kf+1):=hkf
     have HTT:Hid (x.term.k≠3→tellN wordV F k' (nextDo x.term s2).toNat (a:Int) { s2 with fuel:=kf }=(how,en,sE)):=fun h3=>by
      have ht:=HTE.out
      rw[tellN_succ _ _ _ _ _ _ HX.out,HBD.out] at ht
      have e9:s2.fuel-1=kf:=by have:=HKF.out;omega
      simp only[ne_eq,not_true,if_false,h3,if_neg hf0,e9] at ht
      exact ht
     have HT3:Hid (x.term.k=3→(0,s2.val x.term.a,({ s2 with fuel:=kf }:RunS))=(how,en,sE)):=fun h3=>by
      have ht:=HTE.out
      rw[tellN_succ _ _ _ _ _ _ HX.out,HBD.out] at ht
      have e9:s2.fuel-1=kf:=by have:=HKF.out;omega
      simp only[ne_eq,not_true,if_false,h3,if_true,if_neg hf0,e9] at ht
      exact ht
     have HNEW:Hid (Room { s2 with fuel:=kf }∧s2.path.length+kf≤5000∧kf<k'∧kf<s.fuel):=by
      have h1:=HRO3.out
      have h2:=HKF.out
      have h3:=HFU.out
      have h4:=HSK.out
      unfold Room at h1
      refine⟨⟨?_,?_⟩,?_,?_,?_⟩
      ·show s2.told.length+kf≤5000;omega
      ·show s2.path.length+kf≤5001;omega
      ·omega
      ·omega
      ·omega
     clear h5 f5 hb5 hkf k1 c13 s1 g1
     rcases term_cases HBO2.out.2.2.2.2 with ⟨e1,e2,e3⟩ | ⟨e1,e2,e3,e4,e5,e6⟩ | ⟨e1,e2⟩
     ·have HTJ:=HTT.out (by rw[e1];decide)
      have HTJ2:Hid (tellN wordV F k' x.term.t.toNat (a:Int) { s2 with fuel:=kf }=(how,en,sE)):=by
       have e9:nextDo x.term s2=x.term.t:=by simp[nextDo,e1]
       rw[e9] at HTJ
       exact HTJ
      rw[e1] at k2
      have HE:Hid (0≤x.term.t∧x.term.t<(F.blocks.length:Int)):=⟨e2,e3⟩
      clear HTJ e1 e2 e3
      go_wp2_with fail
      have tx:=World.alloc_heap_new w5 (.cells #[.int .i64 1,.int .i64 x.term.a,.int .i64 x.term.t,.int .i64 x.term.e] 42)
      have HR6:Hid (RunIs W0 (w5.alloc (.cells #[.int .i64 1,.int .i64 x.term.a,.int .i64 x.term.t,.int .i64 x.term.e] 42)) R S bv vals { s2 with fuel:=kf } (a:Int) (j:Int)):=HR5.out.later (Bel.alloc _ _)
      generalize w5.alloc (.cells #[.int .i64 1,.int .i64 x.term.a,.int .i64 x.term.t,.int .i64 x.term.e] 42)=w6 at tx HR6 ⊢
      generalize w5.heap.size=C at tx ⊢
      have y0:w6.cell? ⟨C,0,none⟩=some (.int .i64 1):=by simp[World.cell?,tx]
      have y1:w6.cell? ⟨C,1,none⟩=some (.int .i64 x.term.a):=by simp[World.cell?,tx]
      have y2:w6.cell? ⟨C,2,none⟩=some (.int .i64 x.term.t):=by simp[World.cell?,tx]
      have y3:w6.cell? ⟨C,3,none⟩=some (.int .i64 x.term.e):=by simp[World.cell?,tx]
      clear tx
      go_wp2_with fail
      go_roundw
      case rel=>
       refine⟨x.term.t.toNat,(a:Int),(j:Int),{ s2 with fuel:=kf },k',rfl,rfl,?_,by have:=HE.out;omega,HNEW.out.2.2.1,HNEW.out.1,HNEW.out.2.1,HR6.out,HTJ2.out⟩
       rw[Int.toNat_of_nonneg HE.out.1]
      case measure=>
       rw[fuelAt_run HR6.out,HF1.out]
       exact HNEW.out.2.2.2
     ·obtain⟨an,han,han8⟩:=val_nat e6 hv
      have HTJ:=HTT.out (by rw[e1];decide)
      have HTJ2:Hid (tellN wordV F k' (if s2.vals an=0 then x.term.e else x.term.t).toNat (a:Int) { s2 with fuel:=kf }=(how,en,sE)):=by
       have e9:nextDo x.term s2=if s2.vals an=0 then x.term.e else x.term.t:=by
        simp only[nextDo,e1,RunS.val,han,Int.toNat_natCast,true_and]
       rw[e9] at HTJ
       exact HTJ
      rw[e1] at k2
      rw[han] at k3
      clear han
      have HE:Hid (0≤(if s2.vals an=0 then x.term.e else x.term.t)∧(if s2.vals an=0 then x.term.e else x.term.t)<(F.blocks.length:Int)):=by
       show _∧_
       split
       ·exact⟨e4,e5⟩
       ·exact⟨e2,e3⟩
      clear HTJ e1 e2 e3 e4 e5 e6
      go_wp2_with fail
      have tx:=World.alloc_heap_new w5 (.cells #[.int .i64 2,.int .i64 (an:Int),.int .i64 x.term.t,.int .i64 x.term.e] 42)
      have HR6:Hid (RunIs W0 (w5.alloc (.cells #[.int .i64 2,.int .i64 (an:Int),.int .i64 x.term.t,.int .i64 x.term.e] 42)) R S bv vals { s2 with fuel:=kf } (a:Int) (j:Int)):=HR5.out.later (Bel.alloc _ _)
      generalize w5.alloc (.cells #[.int .i64 2,.int .i64 (an:Int),.int .i64 x.term.t,.int .i64 x.term.e] 42)=w6 at tx HR6 ⊢
      generalize w5.heap.size=C at tx ⊢
      have y0:w6.cell? ⟨C,0,none⟩=some (.int .i64 2):=by simp[World.cell?,tx]
      have y1:w6.cell? ⟨C,1,none⟩=some (.int .i64 (an:Int)):=by simp[World.cell?,tx]
      have y2:w6.cell? ⟨C,2,none⟩=some (.int .i64 x.term.t):=by simp[World.cell?,tx]
      have y3:w6.cell? ⟨C,3,none⟩=some (.int .i64 x.term.e):=by simp[World.cell?,tx]
      clear tx
      go_wp2_with fail
      refine(choose_any (W0:=W0) (S:=S) (bv:=bv) (vals:=vals) (s := { s2 with fuel:=kf }) (fr:=(a:Int)) (pl:=(j:Int)) 2 (an:Int) x.term.t x.term.e an rfl han8 _ HR6.out).mono ?_
      rintro e w7 ⟨rfl,b7⟩
      have HR7:Hid (RunIs W0 w7 R S bv vals { s2 with fuel:=kf } (a:Int) (j:Int)):=HR6.out.later b7
      obtain⟨nx,HNX⟩:∃q,Hid ((if s2.vals an=0 then x.term.e else x.term.t)=q):=⟨_,rfl⟩
      have HNX2:Hid ((if ({ s2 with fuel:=kf }:RunS).vals an=0 then x.term.e else x.term.t)=nx):=HNX.out
      rw[HNX2.out]
      rw[HNX.out] at HE HTJ2
      clear b7 HNX2
      go_wp2_with fail
      go_roundw
      case rel=>
       refine⟨nx.toNat,(a:Int),(j:Int),{ s2 with fuel:=kf },k',rfl,rfl,?_,by have:=HE.out;omega,HNEW.out.2.2.1,HNEW.out.1,HNEW.out.2.1,HR7.out,HTJ2.out⟩
       rw[Int.toNat_of_nonneg HE.out.1]
      case measure=>
       rw[fuelAt_run HR7.out,HF1.out]
       exact HNEW.out.2.2.2
     ·obtain⟨an,han,han8⟩:=val_nat e2 hv
      have HTB:Hid ((0,s2.vals an,({ s2 with fuel:=kf }:RunS))=(how,en,sE)):=by
       have h9:=HT3.out e1
       have e9:s2.val x.term.a=s2.vals an:=by simp[RunS.val,han]
       rw[e9] at h9
       exact h9
      rw[e1] at k2
      rw[han] at k3
      clear han
      clear e1 e2
      go_wp2_with fail
      have tx:=World.alloc_heap_new w5 (.cells #[.int .i64 3,.int .i64 (an:Int),.int .i64 x.term.t,.int .i64 x.term.e] 42)
      have HR6:Hid (RunIs W0 (w5.alloc (.cells #[.int .i64 3,.int .i64 (an:Int),.int .i64 x.term.t,.int .i64 x.term.e] 42)) R S bv vals { s2 with fuel:=kf } (a:Int) (j:Int)):=HR5.out.later (Bel.alloc _ _)
      generalize w5.alloc (.cells #[.int .i64 3,.int .i64 (an:Int),.int .i64 x.term.t,.int .i64 x.term.e] 42)=w6 at tx HR6 ⊢
      generalize w5.heap.size=C at tx ⊢
      have y0:w6.cell? ⟨C,0,none⟩=some (.int .i64 3):=by simp[World.cell?,tx]
      have y1:w6.cell? ⟨C,1,none⟩=some (.int .i64 (an:Int)):=by simp[World.cell?,tx]
      have y2:w6.cell? ⟨C,2,none⟩=some (.int .i64 x.term.t):=by simp[World.cell?,tx]
      have y3:w6.cell? ⟨C,3,none⟩=some (.int .i64 x.term.e):=by simp[World.cell?,tx]
      clear tx
      obtain⟨rv6,tv6,pv6,h6⟩:=HR6.out
      have cv:=h6.cells.cv an han8
      obtain⟨yv,HYV⟩:∃q,Hid (s2.vals an=q):=⟨_,rfl⟩
      simp only[HYV.out] at cv
      have han2:(an:Int)<80:=by omega
      clear h6
      go_wp2_with fail
      go_region_held3 (fun w'=>w'.cell? ⟨C,1,none⟩=some (.int .i64 (an:Int))∧w'.cell? ⟨R,14+an,none⟩=some (.int .i64 yv)) (go_keep) (fail)
      simp only[Exit.then]
      go_at_K
      go_wp2_with fail
      simp only[Exit.noGoto_ret]
      refine bodyPost_ret (v := .tuple #[.int .i64 0,.int .i64 yv]) (by simp[results,Tryz.results46,go_sem]) rfl ?_
      have ht:=HTB.out
      rw[HYV.out] at ht
      simp only[Prod.mk.injEq] at ht
      obtain⟨t1,t2,t3⟩:=ht
      rw[←t1,←t2,←t3]
      exact⟨rfl,_,_,HR6.out.later (Below.refl _ _).drew⟩
end
end Go.Proofs.YtfnilamkapabkaaGreatDoor
