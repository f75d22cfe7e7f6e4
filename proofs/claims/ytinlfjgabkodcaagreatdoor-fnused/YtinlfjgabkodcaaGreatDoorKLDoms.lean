/- Rows of numbers: a list of lists that a call has made. The model's dominators: who is reached without a block, and the lists of those that dominate. The model's lists of those that dominate. -/
import Derived.Test.YtinlfjgabkodcaaGreatDoorKOrd
import Derived.Test.YtinlfjgabkodcaaGreatDoorKDfs
namespace Go.Proofs.YtinlfjgabkodcaaGreatDoor
open Go.ChangeShapes Go.WideShapes Go.ChangeAt Go.RowKit Go.Shelf
set_option linter.unusedVariables false
theorem ownInts_none (w:World)(lo:Nat):OwnInts w lo (.slice none 0 0) []:=⟨rfl,.inl ⟨rfl,rfl⟩⟩
structure OwnRows (w:World)(lo g n:Nat)(us:Array Value)(ls:Nat→List Int):Prop where
 box:w.heap[g]? = some (.cells us 38 (0,0))
 size:us.size=n
 low:lo≤g
 row:∀i,i<n→OwnInts w lo (us.getD i (.slice none 0 0)) (ls i)
 apart:∀i j,i<n→j<n→i≠j→Apart (us.getD i (.slice none 0 0)) (us.getD j (.slice none 0 0))
theorem OwnRows.lt {w:World}{lo g n:Nat}{us:Array Value}{ls:Nat→List Int}(h:OwnRows w lo g n us ls):g<w.heap.size:=(Array.getElem?_eq_some_iff.1 h.box).1
theorem OwnRows.keep {w w':World}{lo g n:Nat}{us:Array Value}{ls:Nat→List Int}(h:OwnRows w lo g n us ls)(hb:Below w.heap.size w w'):OwnRows w' lo g n us ls :=
 ⟨(hb.block g h.lt).trans h.box,h.size,h.low,fun i hi=>(h.row i hi).keep hb,h.apart⟩
theorem OwnRows.congr {w:World}{lo g n:Nat}{us:Array Value}{ls ms:Nat→List Int}(h:OwnRows w lo g n us ls)(e:∀i,i<n→ls i=ms i):OwnRows w lo g n us ms :=
 ⟨h.box,h.size,h.low,fun i hi=>by rw[←e i hi];exact h.row i hi,h.apart⟩
theorem OwnRows.cell {w:World}{lo g n:Nat}{us:Array Value}{ls:Nat→List Int}(h:OwnRows w lo g n us ls){i:Nat}(hi:i<n):w.cell? ⟨g,i,none⟩=some (us.getD i (.slice none 0 0)):=by
 have:i<us.size:=by rw[h.size];exact hi
 simp[World.cell?,h.box,this]
theorem OwnRows.frozen {w:World}{lo g n:Nat}{us:Array Value}{ls:Nat→List Int}(h:OwnRows w lo g n us ls)(i:Nat):w.frozen? ⟨g,i,none⟩=false:=by simp[World.frozen?,h.box]
theorem made_getD (n i:Nat):(madeCells #[.slice none 0 0] n).getD i (.slice none 0 0) = .slice none 0 0:=by
 have:madeCells #[Value.slice none 0 0] n=(List.replicate n (Value.slice none 0 0)).toArray:=by
  apply Array.toList_inj.1
  rw[toList_madeCells_one]
 rw[this]
 by_cases h:i<n <;> simp[Array.getD,h]
theorem made_size (n:Nat):(madeCells #[.slice none 0 0] n).size=n:=by
 rw[←Array.length_toList,toList_madeCells_one]
 simp
theorem ownRows_new {w:World}{n g lo:Nat}(hg:w.heap.size=g)(hl:lo≤g):OwnRows (w.alloc (.cells (madeCells #[.slice none 0 0] n) 38)) lo g n (madeCells #[.slice none 0 0] n) (fun _=>[]):=by
 subst hg
 refine⟨World.alloc_heap_new w _,made_size n,hl,fun i _=>?_,fun i j _ _ _=>?_⟩
 ·rw[made_getD];exact ownInts_none _ _
 ·rw[made_getD];intro k hk;simp[Value.ownBlock] at hk
theorem make_rows (n:Nat)(hn:n≤1048576)(w:World) :
  (Instr.makeSlice 188 (.int .i64 (n:Int)) (.int .i64 (n:Int))).run Tryz.prog w = .ok (.slice (some ⟨w.heap.size,0,none⟩) n n) (w.alloc (.cells (madeCells #[.slice none 0 0] n) 38)):=by
 have h:=make_of (z := .slice none 0 0) (size:=1) (bytes:=24) Tryz.underlying188 (by kernel_rfl) n (by omega) (by omega) w
 rw[Nat.mul_one] at h
 exact h
theorem OwnRows.put {w:World}{lo g n:Nat}{us:Array Value}{ls:Nat→List Int}(h:OwnRows w lo g n us ls){b:Nat}(hb:b<n){v:Value}{l:List Int}(hv:OwnInts w lo v l)(ha:∀i,i<n→i≠b→Apart (us.getD i (.slice none 0 0)) v) :
  OwnRows (w.setCell ⟨g,b,none⟩ v) lo g n (us.setIfInBounds b v) (fun i=>if i=b then l else ls i):=by
 have hbs:b<us.size:=by rw[h.size];exact hb
 have hgd:∀i,i<n→(us.setIfInBounds b v).getD i (.slice none 0 0)=if i=b then v else us.getD i (.slice none 0 0):=fun i hi=>by
  have his:i<us.size:=by rw[h.size];exact hi
  by_cases e:i=b
  ·subst e
   simp[Array.getD,his]
  ·have e2:¬b=i:=fun h=>e h.symm
   simp[Array.getD,his,e,e2]
 refine⟨?_,by simp[h.size],h.low,fun i hi=>?_,fun i j hi hj hne=>?_⟩
 ·obtain⟨hlt,hk⟩:=Array.getElem?_eq_some_iff.1 h.box
  show(w.heap.modify g _)[g]? = _
  rw[Array.getElem?_eq_getElem (by rw[Array.size_modify];exact hlt),Array.getElem_modify_self,hk]
  rfl
 ·rw[hgd i hi]
  by_cases e:i=b
  ·simp only[e,if_true]
   exact hv.set (hv.not_box h.box (by decide)) _ _
  ·simp only[e,if_false]
   exact(h.row i hi).set ((h.row i hi).not_box h.box (by decide)) _ _
 ·rw[hgd i hi,hgd j hj]
  by_cases e:i=b
  ·have e2:¬j=b:=fun h=>hne (e.trans h.symm)
   simp only[e,e2,if_true,if_false]
   intro k hk hk2
   exact ha j hj e2 k hk2 hk
  ·by_cases e2:j=b
   ·simp only[e,e2,if_true,if_false]
    exact ha i hi e
   ·simp only[e,e2,if_false]
    exact h.apart i j hi hj hne
theorem OwnRows.grown {W wa:World}{lo g n:Nat}{us:Array Value}{ls:Nat→List Int}(h:OwnRows W lo g n us ls){b:Nat}(hb:b<n){o:Obj}(hg:(W.alloc o).grownBy wa (us.getD b (.slice none 0 0)).ownBlock){v':Value}{l:List Int}(hv:OwnInts wa lo v' l)
  (hat:v'.ownBlock=(us.getD b (.slice none 0 0)).ownBlock∨v'.ownBlock=some (W.alloc o).heap.size) :
  wa.cell? ⟨g,b,none⟩=some (us.getD b (.slice none 0 0))∧wa.frozen? ⟨g,b,none⟩=false∧OwnRows (wa.setCell ⟨g,b,none⟩ v') lo g n (us.setIfInBounds b v') (fun i=>if i=b then l else ls i):=by
 have hgl:=h.lt
 have hbx:wa.heap[g]? = some (.cells us 38 (0,0)):=(hg.block g (by simp;omega) ((h.row b hb).not_box h.box (by decide))).trans ((Below.heap_alloc W _ g hgl).trans h.box)
 have hbs:b<us.size:=by rw[h.size];exact hb
 refine⟨by simp[World.cell?,hbx,hbs],by simp[World.frozen?,hbx],?_⟩
 have key:∀i,i<n→i≠b→OwnInts wa lo (us.getD i (.slice none 0 0)) (ls i):=fun i hi hne=>by
  refine World.ownsRow.kept (World.ownsRow.alloc (h.row i hi) _) hg ?_
  by_cases hn:∃k,(us.getD i (.slice none 0 0)).ownBlock=some k
  ·obtain⟨k,hk⟩:=hn
   exact .inr (fun e=>h.apart i b hi hb hne k hk (by rw[←e];exact hk))
  ·rcases(h.row i hi).2 with ⟨e,_⟩ | ⟨g',cap,cur,e,_⟩
   ·exact .inl (by rw[e];rfl)
   ·exact absurd ⟨g',by rw[e];simp[Value.ownBlock]⟩ hn
 have hb2:∀i,i<n→i≠b→Apart (us.getD i (.slice none 0 0)) v':=fun i hi hne k hk hk2=>by
  rcases hat with e | e
  ·exact h.apart i b hi hb hne k hk (by rw[←e];exact hk2)
  ·have h1:=(World.ownsRow.lt (h.row i hi) k hk).2
   rw[e] at hk2
   simp at hk2
   omega
 have hgd:∀i,i<n→(us.setIfInBounds b v').getD i (.slice none 0 0)=if i=b then v' else us.getD i (.slice none 0 0):=fun i hi=>by
  have his:i<us.size:=by rw[h.size];exact hi
  by_cases e:i=b
  ·subst e
   simp[Array.getD,his]
  ·have e2:¬b=i:=fun h=>e h.symm
   simp[Array.getD,his,e,e2]
 refine⟨?_,by simp[h.size],h.low,fun i hi=>?_,fun i j hi hj hne=>?_⟩
 ·obtain⟨hlt,hk⟩:=Array.getElem?_eq_some_iff.1 hbx
  show(wa.heap.modify g _)[g]? = _
  rw[Array.getElem?_eq_getElem (by rw[Array.size_modify];exact hlt),Array.getElem_modify_self,hk]
  rfl
 ·rw[hgd i hi]
  by_cases e:i=b
  ·simp only[e,if_true]
   exact hv.set (hv.not_box hbx (by decide)) _ _
  ·simp only[e,if_false]
   exact(key i hi e).set ((key i hi e).not_box hbx (by decide)) _ _
 ·rw[hgd i hi,hgd j hj]
  by_cases e:i=b
  ·have e2:¬j=b:=fun h=>hne (e.trans h.symm)
   simp only[e,e2,if_true,if_false]
   intro k hk hk2
   exact hb2 j hj e2 k hk2 hk
  ·by_cases e2:j=b
   ·simp only[e,e2,if_true,if_false]
    exact hb2 i hi e
   ·simp only[e,e2,if_false]
    exact h.apart i j hi hj hne
def GivesRows (w:World)(n:Nat)(ls:Nat→List Int)(e:Ending)(w':World):Prop := ∃g us,e = .returned (.slice (some ⟨g,0,none⟩) n n)∧OwnRows w' w.heap.size g n us ls∧Below w.heap.size w w'
def GivesSeen (w:World)(n:Nat)(p:Nat→Prop)(e:Ending)(w':World):Prop := ∃g L,e = .returned (.slice (some ⟨g,0,none⟩) n n)∧w.heap.size≤g∧SeenRow w' g n L∧(∀x,x<n→(x∈L↔p x))∧Below w.heap.size w w'
theorem l3Left_gone (F:FnD)(v:Value)(W0:World)(n:Nat)(hF:FnAt W0 v F)(hS:FnShape F)(hN:F.blocks.length=n)(gone:Nat)(hgn:gone≠0)(ov:Value)(w:World)(g:Nat)(h0:0<n)(h16:n≤16)
  (hg1:gone<n) (hB:Below W0.heap.size W0 w) (hg:W0.heap.size≤g) (hs:SeenRow w g n [gone]) (ho:OwnInts w W0.heap.size ov []) :
  Calls Tryz.prog 89 #[v,.int .i64 0,.slice (some ⟨g,0,none⟩) n n,ov] w fun e w'=>GivesLeft W0.heap.size g n W0 ov (leave (succsN F) n 0 ([gone],[])) w e w':=by
 have hu:unseen n [gone]≤n:=Nat.le_trans (unseen_sub (a := []) (by simp)) (by rw[unseen_nil];exact Nat.le_refl _)
 exact l3Left_any F v W0 n hF hS hN n 0 ([gone],[]) ov w g hB hg hs ho h0 (by simp;omega) hu (by simp;omega) ⟨by simp;omega,by simp⟩
set_option maxRecDepth 100000 in
set_option maxHeartbeats 4000000 in
theorem l4Without_any (v:Value)(F:FnD)(gone:Nat)(w:World)(hF:FnAt w v F)(hS:FnShape F)(hg:gone<F.blocks.length) :
  Calls Tryz.prog 177 #[v,.int .i64 (gone:Int)] w fun e w'=>GivesSeen w F.blocks.length (Rea (succsN F) (· = gone)) e w':=by
 have HF:Hid (FnAt w v F):=hF
 have HS:Hid (FnShape F):=hS
 obtain⟨n,HN⟩:∃n,Hid (F.blocks.length=n):=⟨_,rfl⟩
 obtain⟨vals,HV⟩:∃x,Hid (F.values=x):=⟨_,rfl⟩
 obtain⟨ba,bcap,rfl⟩:=hF.out HN.out HV.out
 have h16:n≤16:=by rw[←HN.out];exact hS.2.1
 have h1:1≤n:=by rw[←HN.out];exact hS.1
 rw[HN.out] at hg ⊢
 clear hF hS
 have hmk:=make_bools n (by omega)
 by_cases hz:gone=0
 ·subst hz
  go_enter Tryz.func177,Tryz.ntmps177
  go_wp2_with fail
  go_ret
  refine⟨_,[],rfl,by omega,seen_new (by simp),fun x hx=>?_,by repeat (first | exact Below.refl _ _ | apply Below.drew | refine Below.alloc ?_ (by simp <;> omega) _ | refine Below.setCell ?_ (by simp <;> omega) _)⟩
  simp only[List.not_mem_nil,false_iff]
  clear hx
  intro h
  induction h with
  | base h=>exact h rfl
  | step _ _ _ ih=>exact ih
 ·have hzi:((gone:Int) == 0)=false:=by simp;exact hz
  have hgi:(gone:Int)<(n:Int):=by omega
  obtain⟨wA,hwA⟩:∃wA,(w.alloc (.cells #[.slice ba n bcap,.int .i64 vals] 26)).alloc (.cells (madeCells #[.bool false] n) 4)=wA:=⟨_,rfl⟩
  have hsA:wA.heap.size=w.heap.size+2:=by rw[←hwA];simp
  have HA:Hid (Below w.heap.size w wA):=by rw[←hwA];repeat (first | exact Below.refl _ _ | apply Below.drew | refine Below.alloc ?_ (by simp <;> omega) _ | refine Below.setCell ?_ (by simp <;> omega) _)
  have SA:Hid (SeenRow wA (w.heap.size+1) n []):=by rw[←hwA];exact seen_new (by simp)
  have q1:wA.cell? ⟨w.heap.size+1,gone,none⟩=some (.bool false):=by simpa using SA.out.cell hg
  have q2:=SA.out.frozen gone
  have c0:wA.cell? ⟨w.heap.size,0,none⟩=some (.slice ba n bcap):=by rw[←hwA];simp[go_sem]
  have c1:wA.cell? ⟨w.heap.size,1,none⟩=some (.int .i64 vals):=by rw[←hwA];simp[go_sem]
  go_enter Tryz.func177,Tryz.ntmps177
  go_wp2_with fail
  obtain⟨wB,hwB⟩:∃wB,(wA.setCell ⟨w.heap.size+1,gone,none⟩ (.bool true)).alloc (.cells #[] 3)=wB:=⟨_,rfl⟩
  have SB:Hid (SeenRow wB (w.heap.size+1) n [gone]):=by rw[←hwB];exact(SA.out.put gone).later (Bel.alloc _ _)
  have OB:Hid (OwnInts wB w.heap.size (.slice (some ⟨w.heap.size+2,0,none⟩) 0 0) []):=by rw[←hwB];exact ownInts_nil (by simp;omega) (by omega)
  have BB:Hid (Below w.heap.size w wB):=by rw[←hwB];exact(HA.out.setCell (p:=⟨w.heap.size+1,gone,none⟩) (by show w.heap.size≤w.heap.size+1;omega) _).trans ((Bel.alloc _ _).mono (by have:=HA.out.size;simpa using this))
  rw[hwB]
  clear hwB q1 q2 hmk c0 c1 hwA
  refine(l3Left_gone F _ w n HF.out HS.out HN.out gone hz _ _ (w.heap.size+1) (by omega) h16 hg BB.out (by omega) SB.out OB.out).mono ?_
  rintro e w3 ⟨o',rfl,o3,s3,b3,f3,n3⟩
  obtain⟨L,HL⟩:∃L,Hid ((leave (succsN F) n 0 ([gone],[])).1=L):=⟨_,rfl⟩
  rw[HL.out] at s3
  have S3:Hid (SeenRow w3 (w.heap.size+1) n L):=s3
  have B3:Hid (Below w.heap.size w w3):=b3
  have q1:=s3.cell hg
  have q2:=s3.frozen gone
  clear o3 s3 b3 f3 n3
  go_wp2_with fail
  go_ret
  refine⟨_,L.filter (fun x=>decide (x≠gone)),rfl,by omega,S3.out.store gone false (fun i hi=>?_),fun x hx=>?_,B3.out.setCell (p:=⟨w.heap.size+1,gone,none⟩) (by show w.heap.size≤w.heap.size+1;omega) _⟩
  ·by_cases e:i=gone <;> simp[e]
  ·have h0:0∉[gone]:=by simp;omega
   have hr:=leave_rea (n:=n) (by rw[←HN.out];exact succs_in HS.out) (by omega) [gone] h0 [] (Nat.le_refl n) x
   rw[HL.out] at hr
   rw[List.mem_filter,hr]
   constructor
   ·rintro⟨h | h,h2⟩
    ·simp at h h2
     exact absurd h h2
    ·exact h.mono (by simp)
   ·intro h
    exact⟨.inr (h.mono (by simp)),by simpa using h.not⟩
noncomputable def midUp (F:FnD)(k j:Nat):Nat→List Int:=fun i=>if i<j then domsUp F i (k+1) else domsUp F i k
theorem midUp_yes {F:FnD}{k j:Nat}(h:domB F k j=true)(i:Nat):(if i=j then midUp F k j j ++ [(k:Int)] else midUp F k j i)=midUp F k (j+1) i:=by
 unfold midUp
 by_cases e:i=j
 ·subst e
  simp[domsUp_yes h]
 ·have e2:i<j+1↔i<j:=by omega
  simp[e,e2]
theorem midUp_not {F:FnD}{k j:Nat}(h:domB F k j=false)(i:Nat):midUp F k j i=midUp F k (j+1) i:=by
 unfold midUp
 by_cases e:i=j
 ·subst e
  simp[domsUp_not h]
 ·have e2:i<j+1↔i<j:=by omega
  simp[e2]
theorem OwnRows.other {W wa:World}{lo g n:Nat}{us:Array Value}{ls:Nat→List Int}(h:OwnRows W lo g n us ls){b:Nat}(hb:b<n){o:Obj}(hg:(W.alloc o).grownBy wa (us.getD b (.slice none 0 0)).ownBlock){B:Nat}{c:Array Value}{t:TypeId}{z:Nat × Nat}(hB:W.heap[B]? = some (.cells c t z))(ht:t≠3)(hne:B≠g)(v':Value) :
  (wa.setCell ⟨g,b,none⟩ v').heap[B]? = some (.cells c t z):=by
 have hl:=(Array.getElem?_eq_some_iff.1 hB).1
 rw[Below.heap_setCell _ _ _ B hne]
 exact(hg.block B (by simp;omega) ((h.row b hb).not_box hB ht)).trans ((Below.heap_alloc W _ B hl).trans hB)
theorem dom_three {F:FnD}{k j:Nat}{L:List Nat}(hL:j∈L↔Rea (succsN F) (· = k) j):domB F k j=(decide (k∈(wayOf F).1) && (decide (j∈(wayOf F).1) && !decide (j∈L))):=by
 rw[Bool.eq_iff_iff,domB_iff]
 simp[Dom,hL]
set_option maxRecDepth 100000 in
set_option maxHeartbeats 8000000 in
theorem l4Doms_any (v:Value)(F:FnD)(w:World)(hF:FnAt w v F)(hS:FnShape F) :
  Calls Tryz.prog 132 #[v] w fun e w'=>GivesRows w F.blocks.length (domsN F) e w':=by
 have HF:Hid (FnAt w v F):=hF
 have HS:Hid (FnShape F):=hS
 obtain⟨n,HN⟩:∃n,Hid (F.blocks.length=n):=⟨_,rfl⟩
 obtain⟨vals,HV⟩:∃x,Hid (F.values=x):=⟨_,rfl⟩
 obtain⟨ba,bcap,rfl⟩:=hF.out HN.out HV.out
 have h16:n≤16:=by rw[←HN.out];exact hS.2.1
 have h1:1≤n:=by rw[←HN.out];exact hS.1
 rw[HN.out]
 clear hF hS
 have hmk:=make_bools n (by omega)
 have hmr:=make_rows n (by omega)
 go_enter Tryz.func132,Tryz.ntmps132
 go_wp2_with fail
 obtain⟨wA,hwA⟩:∃wA,(((w.alloc (.cells #[.slice ba n bcap,.int .i64 vals] 26)).alloc (.cells (madeCells #[.slice none 0 0] n) 38)).alloc (.cells (madeCells #[.bool false] n) 4)).alloc (.cells #[] 3)=wA:=⟨_,rfl⟩
 have BA:Hid (Below w.heap.size w wA):=by rw[←hwA];repeat (first | exact Below.refl _ _ | apply Below.drew | refine Below.alloc ?_ (by simp <;> omega) _ | refine Below.setCell ?_ (by simp <;> omega) _)
 have hsA:wA.heap.size=w.heap.size+4:=by rw[←hwA];simp
 have XA:Hid (wA.heap[w.heap.size]? = some (.cells #[.slice ba n bcap,.int .i64 vals] 26 (0,0))):=by
  rw[←hwA]
  exact(Below.heap_alloc _ _ _ (by simp <;> omega)).trans ((Below.heap_alloc _ _ _ (by simp <;> omega)).trans ((Below.heap_alloc _ _ _ (by simp)).trans (World.alloc_heap_new _ _)))
 have RA:Hid (OwnRows wA w.heap.size (w.heap.size+1) n (madeCells #[.slice none 0 0] n) (fun _=>[])):=by
  rw[←hwA]
  exact((ownRows_new (by simp) (by omega)).keep (Bel.alloc _ _)).keep (Bel.alloc _ _)
 have SA:Hid (SeenRow wA (w.heap.size+1+1) n []):=by rw[←hwA];exact(seen_new (by simp)).later (Bel.alloc _ _)
 have OA:Hid (OwnInts wA w.heap.size (.slice (some ⟨w.heap.size+1+1+1,0,none⟩) 0 0) []):=by rw[←hwA];exact ownInts_nil (by simp) (by omega)
 have OAB:Hid ((Value.slice (some ⟨w.heap.size+1+1+1,0,none⟩) 0 0).ownBlock=some (w.heap.size+1+1+1)):=rfl
 rw[hwA]
 clear hwA hmk hmr
 refine(l3Left_zero F _ w n HF.out HS.out HN.out _ _ (w.heap.size+1+1) (by omega) h16 BA.out (by omega) SA.out OA.out).mono ?_
 rintro e w1 ⟨o',rfl,o1,s1,b1,f1,n1⟩
 have S1:Hid (SeenRow w1 (w.heap.size+1+1) n (wayOf F).1):=s1
 have B1:Hid (Below w.heap.size w w1):=b1
 have x1:w1.heap[w.heap.size]? = some (.cells #[.slice ba n bcap,.int .i64 vals] 26 (0,0)):=(f1.block _ (by omega) (by omega) (by rw[OAB.out];simp <;> omega)).trans XA.out
 have X1:Hid (w1.heap[w.heap.size]? = some (.cells #[.slice ba n bcap,.int .i64 vals] 26 (0,0))):=x1
 have R1:Hid (OwnRows w1 w.heap.size (w.heap.size+1) n (madeCells #[.slice none 0 0] n) (fun _=>[])):=by
  refine⟨(f1.block _ (by omega) (by omega) (by rw[OAB.out];simp <;> omega)).trans RA.out.box,made_size n,by omega,fun i _=>?_,fun i j _ _ _=>?_⟩
  ·rw[made_getD];exact ownInts_none _ _
  ·rw[made_getD];intro k hk;simp[Value.ownBlock] at hk
 have hs1:w.heap.size+4≤w1.heap.size:=by have:=f1.size;omega
 clear o1 s1 b1 f1 n1 x1 BA XA RA SA OA OAB hsA
 go_wp2_with fail
 go_loopw [5] (fun i wr=>∃(k:Nat) (us:Array Value),k≤n∧i = .int .i64 k∧OwnRows wr w.heap.size (w.heap.size+1) n us (fun i=>domsUp F i k)∧SeenRow wr (w.heap.size+1+1) n (wayOf F).1∧Below w.heap.size w wr∧wr.heap[w.heap.size]? = some (.cells #[.slice ba n bcap,.int .i64 vals] 26 (0,0))) (fun i _=>n-(intOf i).toNat)
 case atStart=>exact⟨0,_,Nat.zero_le _,rfl,R1.out,S1.out,B1.out,X1.out⟩
 case round=>
  obtain⟨k,us,hk,rfl,hR,hSe,hB,hX⟩:=hrel
  have HR:Hid (OwnRows wr w.heap.size (w.heap.size+1) n us (fun i=>domsUp F i k)):=hR
  have HSE:Hid (SeenRow wr (w.heap.size+1+1) n (wayOf F).1):=hSe
  have HB:Hid (Below w.heap.size w wr):=hB
  have HX:Hid (wr.heap[w.heap.size]? = some (.cells #[.slice ba n bcap,.int .i64 vals] 26 (0,0))):=hX
  have c0:wr.cell? ⟨w.heap.size,0,none⟩=some (.slice ba n bcap):=by simp[World.cell?,hX]
  have c1:wr.cell? ⟨w.heap.size,1,none⟩=some (.int .i64 vals):=by simp[World.cell?,hX]
  clear hR hSe hB hX
  by_cases hlt:(k:Int)<(n:Int)
  ·go_wp2_with fail
   refine(l4Without_any _ F k _ (HF.out.later HB.out) HS.out (by rw[HN.out];omega)).mono ?_
   rw[HN.out]
   rintro e w2 ⟨g,L,rfl,hg,sL,hL,b2⟩
   have HL:Hid (∀x,x<n→(x∈L↔Rea (succsN F) (· = k) x)):=hL
   have SL:Hid (SeenRow w2 g n L):=sL
   have R2:Hid (OwnRows w2 w.heap.size (w.heap.size+1) n us (fun i=>domsUp F i k)):=HR.out.keep b2
   have S2:Hid (SeenRow w2 (w.heap.size+1+1) n (wayOf F).1):=HSE.out.later b2
   have B2:Hid (Below w.heap.size w w2):=Bel.after HB.out b2
   have X2:Hid (w2.heap[w.heap.size]? = some (.cells #[.slice ba n bcap,.int .i64 vals] 26 (0,0))):=(b2.block _ (Array.getElem?_eq_some_iff.1 HX.out).1).trans HX.out
   have hgw:w.heap.size+1<g:=by have:=HSE.out.lt;omega
   clear hL sL b2 HR HSE HB HX c0 c1 hg
   go_wp2_with fail
   go_loopw [7] (fun i wr=>∃(j:Nat) (us:Array Value),j≤n∧i = .int .i64 j∧OwnRows wr w.heap.size (w.heap.size+1) n us (midUp F k j)∧SeenRow wr (w.heap.size+1+1) n (wayOf F).1∧SeenRow wr g n L∧Below w.heap.size w wr∧wr.heap[w.heap.size]? = some (.cells #[.slice ba n bcap,.int .i64 vals] 26 (0,0))) (fun i _=>n-(intOf i).toNat)
   case atStart=>exact⟨0,us,Nat.zero_le _,rfl,R2.out.congr (fun i _=>by simp[midUp]),S2.out,SL.out,B2.out,X2.out⟩
   case round=>
    obtain⟨j,vs,hj,rfl,hR,hSe,hSl,hB,hX⟩:=hrel
    have HR:Hid (OwnRows wr w.heap.size (w.heap.size+1) n vs (midUp F k j)):=hR
    have HSE:Hid (SeenRow wr (w.heap.size+1+1) n (wayOf F).1):=hSe
    have HSL:Hid (SeenRow wr g n L):=hSl
    have HB:Hid (Below w.heap.size w wr):=hB
    have HX:Hid (wr.heap[w.heap.size]? = some (.cells #[.slice ba n bcap,.int .i64 vals] 26 (0,0))):=hX
    have c0:wr.cell? ⟨w.heap.size,0,none⟩=some (.slice ba n bcap):=by simp[World.cell?,hX]
    have c1:wr.cell? ⟨w.heap.size,1,none⟩=some (.int .i64 vals):=by simp[World.cell?,hX]
    clear hR hSe hSl hB hX
    by_cases hlt2:(j:Int)<(n:Int)
    ·have hkn:k<n:=by omega
     have hjn:j<n:=by omega
     obtain⟨x1,H1⟩:∃x,Hid (decide (k∈(wayOf F).1)=x):=⟨_,rfl⟩
     obtain⟨x2,H2⟩:∃x,Hid (decide (j∈(wayOf F).1)=x):=⟨_,rfl⟩
     obtain⟨x3,H3⟩:∃x,Hid (decide (j∈L)=x):=⟨_,rfl⟩
     have HD:Hid (domB F k j=(x1 && (x2 && !x3))):=by
      rw[←H1.out,←H2.out,←H3.out]
      exact dom_three (HL.out j hjn)
     have q1:wr.cell? ⟨w.heap.size+1+1,k,none⟩=some (.bool x1):=by rw[←H1.out];exact HSE.out.cell hkn
     have q2:wr.cell? ⟨w.heap.size+1+1,j,none⟩=some (.bool x2):=by rw[←H2.out];exact HSE.out.cell hjn
     have q3:wr.cell? ⟨g,j,none⟩=some (.bool x3):=by rw[←H3.out];exact HSL.out.cell hjn
     cases x1 with
     | false=>
      have HR2:Hid (OwnRows wr w.heap.size (w.heap.size+1) n vs (midUp F k (j+1))):=HR.out.congr (fun i _=>midUp_not HD.out i)
      go_wp2_with fail
      go_roundw
      case rel=>exact⟨j+1,vs,by omega,by go_num,HR2.out,HSE.out,HSL.out,HB.out,HX.out⟩
      case measure=>simp[intOf];omega
     | true=>
      cases x2 with
      | false=>
       have HR2:Hid (OwnRows wr w.heap.size (w.heap.size+1) n vs (midUp F k (j+1))):=HR.out.congr (fun i _=>midUp_not HD.out i)
       go_wp2_with fail
       go_roundw
       case rel=>exact⟨j+1,vs,by omega,by go_num,HR2.out,HSE.out,HSL.out,HB.out,HX.out⟩
       case measure=>simp[intOf];omega
      | true=>
       cases x3 with
       | true=>
        have HR2:Hid (OwnRows wr w.heap.size (w.heap.size+1) n vs (midUp F k (j+1))):=HR.out.congr (fun i _=>midUp_not HD.out i)
        go_wp2_with fail
        go_roundw
        case rel=>exact⟨j+1,vs,by omega,by go_num,HR2.out,HSE.out,HSL.out,HB.out,HX.out⟩
        case measure=>simp[intOf];omega
       | false=>
        obtain⟨u,HU⟩:∃u,Hid (vs.getD j (.slice none 0 0)=u):=⟨_,rfl⟩
        have q4:wr.cell? ⟨w.heap.size+1,j,none⟩=some u:=by rw[←HU.out];exact HR.out.cell hjn
        have ho:OwnInts wr w.heap.size u (domsUp F j k):=by
         have:=HR.out.row j hjn
         rw[HU.out] at this
         simpa [midUp] using this
        have HO:Hid (OwnInts wr w.heap.size u (domsUp F j k)):=ho
        clear ho
        have hdl:=domsUp_len F j k
        obtain⟨i0,hi,hz0,hz1,hz2⟩:=info_parts info_int
        have hmx:100≤maxLen:=by decide
        go_wp2_with (at_builtin;refine wpList_append_own_at _ rfl _ _ 38 rfl w.heap.size 3 i0 (.int .i64 0) 1 8 Tryz.underlying38 hi hz0 hz1 hz2 rfl (by decide) _ _ _ rfl (World.ownsRow.alloc HO.out _) ⟨wr.heap.size,0,none⟩ 1 1 [.int .i64 (k:Int)] rfl rfl (cell_one_new _ _ _) (by simp[Value.oneCell']) (by omega) (by omega) (by have:=HB.out.size;simp;omega) ?_;intro v' wa hown' hgrow _ hat;obtain⟨g',cap',rfl⟩:=ownsRow_succ hown';have HO':Hid (OwnInts wa w.heap.size (.slice (some ⟨g',0,none⟩) ((domsUp F j k).length+1) cap') (domsUp F j k ++ [(k:Int)])):=OwnInts.next hown';have HG:Hid ((wr.alloc (.cells #[.int .i64 (k:Int)] 3)).grownBy wa (vs.getD j (.slice none 0 0)).ownBlock):=(by rw[HU.out];exact hgrow);have hgr:=HR.out.grown hjn HG.out HO'.out (by rw[HU.out];exact hat);obtain⟨p1,p2,hrr⟩:=hgr;rw[HU.out] at p1;have HRR:Hid (OwnRows (wa.setCell ⟨w.heap.size+1,j,none⟩ (.slice (some ⟨g',0,none⟩) ((domsUp F j k).length+1) cap')) w.heap.size (w.heap.size+1) n _ _):=hrr;clear hown' hgrow hat hrr)
        have hmid:∀i,(if i=j then domsUp F j k ++ [(k:Int)] else midUp F k j i)=midUp F k (j+1) i:=fun i=>by
         have h:=midUp_yes (show domB F k j=true from HD.out) i
         have e:midUp F k j j=domsUp F j k:=by simp[midUp]
         rw[e] at h
         exact h
        have HMID:Hid (∀i,(if i=j then domsUp F j k ++ [(k:Int)] else midUp F k j i)=midUp F k (j+1) i):=hmid
        clear hmid
        go_roundw
        case rel=>exact⟨j+1,_,by omega,by go_num,HRR.out.congr (fun i _=>HMID.out i),HR.out.other hjn HG.out HSE.out (by decide) (by omega) _,HR.out.other hjn HG.out HSL.out (by decide) (by omega) _,(HB.out.trans ((HR.out.row j hjn).grown HB.out.size HG.out)).setCell (p:=⟨w.heap.size+1,j,none⟩) (by show w.heap.size≤w.heap.size+1;omega) _,HR.out.other hjn HG.out HX.out (by decide) (by omega) _⟩
        case measure=>simp[intOf];omega
    ·have hjn:j=n:=by omega
     subst hjn
     go_wp2_with fail
     go_roundw
     case rel=>exact⟨k+1,vs,by omega,by go_num,HR.out.congr (fun i hi=>by simp[midUp,hi]),HSE.out,HB.out,HX.out⟩
     case measure=>simp[intOf];omega
  ·have hkn:k=n:=by omega
   subst hkn
   go_wp2_with fail
   go_ret
   refine⟨_,us,rfl,HR.out.congr (fun i _=>?_),HB.out⟩
   unfold domsN
   rw[HN.out]
end Go.Proofs.YtinlfjgabkodcaaGreatDoor
