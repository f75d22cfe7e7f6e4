/- The body of one round: a set is made smaller by that of a block ahead. One round over the table of sets: the program's domRound. The table of those that dominate: rounds till the table stays. -/
import Derived.Test.YtfnilamkapabkaaGreatDoorKTab
import Derived.RangeFuncBox
import Derived.Test.YtfnilamkapabkaaGreatDoorKWalk
namespace Go.Proofs.YtfnilamkapabkaaGreatDoor
open Go.ChangeShapes Go.WideShapes Go.ChangeAt Go.RowKit Go.Shelf
set_option linter.unusedVariables false
structure FrX (X:Nat)(w w':World):Prop where
 size:w.heap.size≤w'.heap.size
 block:∀k,k<w.heap.size→k≠X→w'.heap[k]? = w.heap[k]?
theorem FrX.refl (X:Nat)(w:World):FrX X w w:=⟨Nat.le_refl _,fun _ _ _=>rfl⟩
theorem FrX.trans {X:Nat}{a b c:World}(h:FrX X a b)(k:FrX X b c):FrX X a c:=⟨Nat.le_trans h.size k.size,fun i hi hx=>(k.block i (Nat.lt_of_lt_of_le hi h.size) hx).trans (h.block i hi hx)⟩
theorem FrX.ofBelow {X:Nat}{a b:World}(h:Below a.heap.size a b):FrX X a b:=⟨h.size,fun i hi _=>h.block i hi⟩
theorem FrX.set (X:Nat)(w:World)(c:Array Value):FrX X w (w.setRow X c):=⟨by simp,fun i _ hx=>setRow_other w X i c hx⟩
def opsR : Array Oper := #[⟨some 24,.move (.tmp 9),3,"l04_dom.go:75",#[],none⟩,⟨some 25,.move (.tmp 9),3,"l04_dom.go:75",#[],none⟩,⟨some 26,.indexAddr 95 (.tmp 5) (.tmp 25),0,"l04_dom.go:75",#[⟨1,.data⟩],none⟩,⟨some 27,.load 93 (.tmp 26),93,"l04_dom.go:75",#[⟨2,.data⟩],none⟩,⟨some 28,.load 3 (.tmp 8),3,"l04_dom.go:75",#[],none⟩,⟨some 29,.indexAddr 95 (.tmp 5) (.tmp 28),0,"l04_dom.go:75",#[⟨4,.data⟩],none⟩,⟨some 30,.load 93 (.tmp 29),93,"l04_dom.go:75",#[⟨5,.data⟩],none⟩,⟨some 31,.move (.tmp 9),3,"l04_dom.go:75",#[],none⟩,⟨some 32,.call ⟨.value (.func 155),#[.tmp 30,.tmp 31],#[93,3]⟩,93,"l04_dom.go:75",#[⟨6,.data⟩,⟨7,.data⟩],none⟩,⟨some 33,.call ⟨.value (.func 156),#[.tmp 27,.tmp 32],#[93,93]⟩,93,"l04_dom.go:75",#[⟨3,.data⟩,⟨8,.data⟩,⟨8,.chain⟩],none⟩,⟨some 34,.indexAddr 95 (.tmp 5) (.tmp 24),0,"l04_dom.go:75",#[⟨0,.data⟩,⟨0,.phase⟩,⟨1,.phase⟩,⟨2,.phase⟩,⟨3,.phase⟩,⟨4,.phase⟩,⟨5,.phase⟩,⟨6,.phase⟩,⟨7,.phase⟩,⟨8,.phase⟩,⟨9,.phase⟩],none⟩,⟨none,.store 93 (.tmp 34) (.tmp 33),0,"l04_dom.go:75",#[⟨10,.data⟩,⟨9,.data⟩,⟨9,.chain⟩,⟨0,.phase⟩,⟨1,.phase⟩,⟨2,.phase⟩,⟨3,.phase⟩,⟨4,.phase⟩,⟨5,.phase⟩,⟨6,.phase⟩,⟨7,.phase⟩,⟨8,.phase⟩,⟨9,.phase⟩],none⟩]
theorem run_indexAt_tab {TB sn:Nat}(hs:sn<16)(W:World):(Instr.indexAt 95 (.pointer (some ⟨TB,0,none⟩)) (.int .i64 (sn:Int))).run Tryz.prog W = .ok (.pointer (some ⟨TB,sn*16,none⟩)) W:=by
 simp[Instr.indexAt,asIntOf,Sem.run_bind,run_underlying Tryz.underlying95,Instr.sureAddr,Tryz.sizeOf93,hs,Addr.add]
 intro h;omega
theorem run_call2 {P:Program}{o:Oper}{a:Act}{f:FuncId}{x y:Operand}{ts:Array TypeId}(ho:o.op=Op.call { callee:=Callee.value (Operand.func f),args := #[x,y],argTypes:=ts }){u v:Value}(hx:a.eval x=u)(hy:a.eval y=v)(he:∀args w,(callFunc f args).run P w = .ok (.enter f args) w)(w:World):(execOp a.eval o).run P w = .ok (.enter f #[u,v]) w:=by
 simp[execOp,ho,resolve,invoke,Act.eval,go_sem,he]
 simp[Act.eval] at hx hy
 simp[hx,hy]
theorem run_loadAt_row {w:World}{B:Nat}{T:Tab}(h:TabAt w B T){b:Nat}(hb:b<16):(Instr.loadAt 93 (.pointer (some ⟨B,b*16,none⟩))).run Tryz.prog w = .ok (setV (T b)) w:=by
 simp only[Instr.loadAt,Instr.sureAddr,Sem.run_bind,Sem.run_pure,Result.andThen_ok]
 exact run_loadVar_mid w B (b*16) 93 (rowC (T b)) _ (h.row hb) Tryz.underlying93 rfl (by rw[rowC_len];exact info_set)
theorem run_loadAt_int {w:World}{B:Nat}{x:Int}(h:Boxed w B 3 (.int .i64 x)):(Instr.loadAt 3 (.pointer (some ⟨B,0,none⟩))).run Tryz.prog w = .ok (.int .i64 x) w:=by
 have:=h.cell
 simp[Instr.loadAt,Instr.sureAddr,go_sem,this]
theorem wp_put_row {o:Oper}{a:Act}{w:World}{K:Act→World→Prop}{Q:Exit→Act→World→Prop}(x y:Operand)(ho:o.op = .store 93 x y)
  (B b:Nat) (T:Tab) (f:Nat→Bool) (hb:b<16) (hx:a.eval x = .pointer (some ⟨B,b*16,none⟩)) (hy:a.eval y=setV f) (hc:TabAt w B T)
  (h:K (a.put o.dst undef) (w.setRow B (tabC (putT T b f)).toArray)):o.wp Tryz.prog a w K Q:=by
 have hst:=run_storeCells_at (P:=Tryz.prog) B (b*16) 95 (rowC f) 0 (tabC T).toArray w hc (by rw[rowC_len,List.size_toArray,tabC_len];omega) (rowC_one f)
 simp only[Nat.add_zero] at hst
 have hsv:(storeVar 93 ⟨B,b*16,none⟩ (.agg (rowC f).toArray)).run Tryz.prog w = .ok () (w.setRow B (tabC (putT T b f)).toArray):=by
  have hi:=info_set
  cases hq:Tryz.prog.info? 93 with
  | none=>simp[hq] at hi
  | some i=>
   have hs:(rowC f).length=i.size:=by simp[hq] at hi;rw[rowC_len];omega
   have hput:=tabC_put T hb f
   simp[storeVar,sizeOf,typeInfo,hq,Value.cells,hs,hst]
   rw[←hs,rowC_len,←hput]
   simp
 unfold Oper.wp execOp
 simp only[ho,hx,hy,setV,Instr.storeAt,Instr.sureAddr,Sem.run_bind,Sem.run_pure,Result.andThen_ok,hsv]
 exact h
set_option maxRecDepth 100000 in
set_option maxHeartbeats 4000000 in
theorem domBody (TB bB:Nat)(T:Tab)(bn sn:Nat)(hb:bn<16)(hs:sn<16)(a:Act)(hsz:a.tmps.size=37)(h5:a.eval (.tmp 5) = .pointer (some ⟨TB,0,none⟩))(h8:a.eval (.tmp 8) = .pointer (some ⟨bB,0,none⟩))(h9:a.eval (.tmp 9) = .int .i64 (sn:Int))(w:World)
  (hT:TabAt w TB T) (hbx:Boxed w bB 3 (.int .i64 (bn:Int))) (Q:Exit→Act→World→Prop) (hQp:∀c a w,¬Q (.panic c) a w)
  (hQ:∀a' W',FrX TB w W'→Below TB w W'→TabAt W' TB (rstep T (bn,sn))→Q .normal a' W') :
  wpAnyM Tryz.prog .any opsR Q 11 (fun W=>TabAt W TB T∧Boxed W bB 3 (.int .i64 (bn:Int))) 12 (Array.replicate 12 false) a w:=by
 have hS:TabAt w TB T∧Boxed w bB 3 (.int .i64 (bn:Int)):=⟨hT,hbx⟩
 have hp:∀(o:Option Tmp) (v:Value) c a w,Q (.panic c) (a.put o v) w→Q (.panic c) a w:=fun o v c a w h=>absurd h (hQp _ _ _)
 refine wpAnyM_take (i:=0) (v := .int .i64 (sn:Int)) rfl (by kernel_rfl) (by kernel_rfl) (by kernel_rfl) (by kernel_rfl) (hp _ _) (yields_move rfl rfl h9) hS ?_
 obtain⟨a1,e1⟩:∃x,a.put opsR[0].dst (.int .i64 (sn:Int))=x:=⟨_,rfl⟩
 have z1:a1.tmps.size=37:=by rw[←e1];exact put_size.trans hsz
 have g1_5:a1.eval (.tmp 5) = .pointer (some ⟨TB,0,none⟩):=by rw[←e1];exact(put_ne (by decide)).trans h5
 have g1_8:a1.eval (.tmp 8) = .pointer (some ⟨bB,0,none⟩):=by rw[←e1];exact(put_ne (by decide)).trans h8
 have g1_9:a1.eval (.tmp 9) = .int .i64 (sn:Int):=by rw[←e1];exact(put_ne (by decide)).trans h9
 have g1_24:a1.eval (.tmp 24) = .int .i64 (sn:Int):=by rw[←e1];exact put_eq (by rw[hsz];decide)
 rw[e1]
 clear e1 hsz h5 h8 h9
 refine wpAnyM_take (i:=1) (v := .int .i64 (sn:Int)) rfl (by kernel_rfl) (by kernel_rfl) (by kernel_rfl) (by kernel_rfl) (hp _ _) (yields_move rfl rfl g1_9) hS ?_
 obtain⟨a2,e2⟩:∃x,a1.put opsR[1].dst (.int .i64 (sn:Int))=x:=⟨_,rfl⟩
 have z2:a2.tmps.size=37:=by rw[←e2];exact put_size.trans z1
 have g2_5:a2.eval (.tmp 5) = .pointer (some ⟨TB,0,none⟩):=by rw[←e2];exact(put_ne (by decide)).trans g1_5
 have g2_8:a2.eval (.tmp 8) = .pointer (some ⟨bB,0,none⟩):=by rw[←e2];exact(put_ne (by decide)).trans g1_8
 have g2_9:a2.eval (.tmp 9) = .int .i64 (sn:Int):=by rw[←e2];exact(put_ne (by decide)).trans g1_9
 have g2_24:a2.eval (.tmp 24) = .int .i64 (sn:Int):=by rw[←e2];exact(put_ne (by decide)).trans g1_24
 have g2_25:a2.eval (.tmp 25) = .int .i64 (sn:Int):=by rw[←e2];exact put_eq (by rw[z1];decide)
 rw[e2]
 clear e2 z1 g1_5 g1_8 g1_9 g1_24
 refine wpAnyM_take (i:=7) (v := .int .i64 (sn:Int)) rfl (by kernel_rfl) (by kernel_rfl) (by kernel_rfl) (by kernel_rfl) (hp _ _) (yields_move rfl rfl g2_9) hS ?_
 obtain⟨a3,e3⟩:∃x,a2.put opsR[7].dst (.int .i64 (sn:Int))=x:=⟨_,rfl⟩
 have z3:a3.tmps.size=37:=by rw[←e3];exact put_size.trans z2
 have g3_5:a3.eval (.tmp 5) = .pointer (some ⟨TB,0,none⟩):=by rw[←e3];exact(put_ne (by decide)).trans g2_5
 have g3_8:a3.eval (.tmp 8) = .pointer (some ⟨bB,0,none⟩):=by rw[←e3];exact(put_ne (by decide)).trans g2_8
 have g3_9:a3.eval (.tmp 9) = .int .i64 (sn:Int):=by rw[←e3];exact(put_ne (by decide)).trans g2_9
 have g3_24:a3.eval (.tmp 24) = .int .i64 (sn:Int):=by rw[←e3];exact(put_ne (by decide)).trans g2_24
 have g3_25:a3.eval (.tmp 25) = .int .i64 (sn:Int):=by rw[←e3];exact(put_ne (by decide)).trans g2_25
 have g3_31:a3.eval (.tmp 31) = .int .i64 (sn:Int):=by rw[←e3];exact put_eq (by rw[z2];decide)
 rw[e3]
 clear e3 z2 g2_5 g2_8 g2_9 g2_24 g2_25
 refine wpAnyM_take (i:=4) (v := .int .i64 (bn:Int)) rfl (by kernel_rfl) (by kernel_rfl) (by kernel_rfl) (by kernel_rfl) (hp _ _) (yields_load rfl rfl g3_8 (fun W hW=>run_loadAt_int hW.2)) hS ?_
 obtain⟨a4,e4⟩:∃x,a3.put opsR[4].dst (.int .i64 (bn:Int))=x:=⟨_,rfl⟩
 have z4:a4.tmps.size=37:=by rw[←e4];exact put_size.trans z3
 have g4_5:a4.eval (.tmp 5) = .pointer (some ⟨TB,0,none⟩):=by rw[←e4];exact(put_ne (by decide)).trans g3_5
 have g4_8:a4.eval (.tmp 8) = .pointer (some ⟨bB,0,none⟩):=by rw[←e4];exact(put_ne (by decide)).trans g3_8
 have g4_9:a4.eval (.tmp 9) = .int .i64 (sn:Int):=by rw[←e4];exact(put_ne (by decide)).trans g3_9
 have g4_24:a4.eval (.tmp 24) = .int .i64 (sn:Int):=by rw[←e4];exact(put_ne (by decide)).trans g3_24
 have g4_25:a4.eval (.tmp 25) = .int .i64 (sn:Int):=by rw[←e4];exact(put_ne (by decide)).trans g3_25
 have g4_31:a4.eval (.tmp 31) = .int .i64 (sn:Int):=by rw[←e4];exact(put_ne (by decide)).trans g3_31
 have g4_28:a4.eval (.tmp 28) = .int .i64 (bn:Int):=by rw[←e4];exact put_eq (by rw[z3];decide)
 rw[e4]
 clear e4 z3 g3_5 g3_8 g3_9 g3_24 g3_25 g3_31
 refine wpAnyM_take (i:=2) (v := .pointer (some ⟨TB,sn*16,none⟩)) rfl (by kernel_rfl) (by kernel_rfl) (by kernel_rfl) (by kernel_rfl) (hp _ _) (yields_index rfl rfl g4_5 g4_25 (fun W _=>run_indexAt_tab hs W)) hS ?_
 obtain⟨a5,e5⟩:∃x,a4.put opsR[2].dst (.pointer (some ⟨TB,sn*16,none⟩))=x:=⟨_,rfl⟩
 have z5:a5.tmps.size=37:=by rw[←e5];exact put_size.trans z4
 have g5_5:a5.eval (.tmp 5) = .pointer (some ⟨TB,0,none⟩):=by rw[←e5];exact(put_ne (by decide)).trans g4_5
 have g5_8:a5.eval (.tmp 8) = .pointer (some ⟨bB,0,none⟩):=by rw[←e5];exact(put_ne (by decide)).trans g4_8
 have g5_9:a5.eval (.tmp 9) = .int .i64 (sn:Int):=by rw[←e5];exact(put_ne (by decide)).trans g4_9
 have g5_24:a5.eval (.tmp 24) = .int .i64 (sn:Int):=by rw[←e5];exact(put_ne (by decide)).trans g4_24
 have g5_25:a5.eval (.tmp 25) = .int .i64 (sn:Int):=by rw[←e5];exact(put_ne (by decide)).trans g4_25
 have g5_31:a5.eval (.tmp 31) = .int .i64 (sn:Int):=by rw[←e5];exact(put_ne (by decide)).trans g4_31
 have g5_28:a5.eval (.tmp 28) = .int .i64 (bn:Int):=by rw[←e5];exact(put_ne (by decide)).trans g4_28
 have g5_26:a5.eval (.tmp 26) = .pointer (some ⟨TB,sn*16,none⟩):=by rw[←e5];exact put_eq (by rw[z4];decide)
 rw[e5]
 clear e5 z4 g4_5 g4_8 g4_9 g4_24 g4_25 g4_31 g4_28
 refine wpAnyM_take (i:=5) (v := .pointer (some ⟨TB,bn*16,none⟩)) rfl (by kernel_rfl) (by kernel_rfl) (by kernel_rfl) (by kernel_rfl) (hp _ _) (yields_index rfl rfl g5_5 g5_28 (fun W _=>run_indexAt_tab hb W)) hS ?_
 obtain⟨a6,e6⟩:∃x,a5.put opsR[5].dst (.pointer (some ⟨TB,bn*16,none⟩))=x:=⟨_,rfl⟩
 have z6:a6.tmps.size=37:=by rw[←e6];exact put_size.trans z5
 have g6_5:a6.eval (.tmp 5) = .pointer (some ⟨TB,0,none⟩):=by rw[←e6];exact(put_ne (by decide)).trans g5_5
 have g6_8:a6.eval (.tmp 8) = .pointer (some ⟨bB,0,none⟩):=by rw[←e6];exact(put_ne (by decide)).trans g5_8
 have g6_9:a6.eval (.tmp 9) = .int .i64 (sn:Int):=by rw[←e6];exact(put_ne (by decide)).trans g5_9
 have g6_24:a6.eval (.tmp 24) = .int .i64 (sn:Int):=by rw[←e6];exact(put_ne (by decide)).trans g5_24
 have g6_25:a6.eval (.tmp 25) = .int .i64 (sn:Int):=by rw[←e6];exact(put_ne (by decide)).trans g5_25
 have g6_31:a6.eval (.tmp 31) = .int .i64 (sn:Int):=by rw[←e6];exact(put_ne (by decide)).trans g5_31
 have g6_28:a6.eval (.tmp 28) = .int .i64 (bn:Int):=by rw[←e6];exact(put_ne (by decide)).trans g5_28
 have g6_26:a6.eval (.tmp 26) = .pointer (some ⟨TB,sn*16,none⟩):=by rw[←e6];exact(put_ne (by decide)).trans g5_26
 have g6_29:a6.eval (.tmp 29) = .pointer (some ⟨TB,bn*16,none⟩):=by rw[←e6];exact put_eq (by rw[z5];decide)
 rw[e6]
 clear e6 z5 g5_5 g5_8 g5_9 g5_24 g5_25 g5_31 g5_28 g5_26
 refine wpAnyM_take (i:=3) (v:=setV (T sn)) rfl (by kernel_rfl) (by kernel_rfl) (by kernel_rfl) (by kernel_rfl) (hp _ _) (yields_load rfl rfl g6_26 (fun W hW=>run_loadAt_row hW.1 hs)) hS ?_
 obtain⟨a7,e7⟩:∃x,a6.put opsR[3].dst (setV (T sn))=x:=⟨_,rfl⟩
 have z7:a7.tmps.size=37:=by rw[←e7];exact put_size.trans z6
 have g7_5:a7.eval (.tmp 5) = .pointer (some ⟨TB,0,none⟩):=by rw[←e7];exact(put_ne (by decide)).trans g6_5
 have g7_8:a7.eval (.tmp 8) = .pointer (some ⟨bB,0,none⟩):=by rw[←e7];exact(put_ne (by decide)).trans g6_8
 have g7_9:a7.eval (.tmp 9) = .int .i64 (sn:Int):=by rw[←e7];exact(put_ne (by decide)).trans g6_9
 have g7_24:a7.eval (.tmp 24) = .int .i64 (sn:Int):=by rw[←e7];exact(put_ne (by decide)).trans g6_24
 have g7_25:a7.eval (.tmp 25) = .int .i64 (sn:Int):=by rw[←e7];exact(put_ne (by decide)).trans g6_25
 have g7_31:a7.eval (.tmp 31) = .int .i64 (sn:Int):=by rw[←e7];exact(put_ne (by decide)).trans g6_31
 have g7_28:a7.eval (.tmp 28) = .int .i64 (bn:Int):=by rw[←e7];exact(put_ne (by decide)).trans g6_28
 have g7_26:a7.eval (.tmp 26) = .pointer (some ⟨TB,sn*16,none⟩):=by rw[←e7];exact(put_ne (by decide)).trans g6_26
 have g7_29:a7.eval (.tmp 29) = .pointer (some ⟨TB,bn*16,none⟩):=by rw[←e7];exact(put_ne (by decide)).trans g6_29
 have g7_27:a7.eval (.tmp 27)=setV (T sn):=by rw[←e7];exact put_eq (by rw[z6];decide)
 rw[e7]
 clear e7 z6 g6_5 g6_8 g6_9 g6_24 g6_25 g6_31 g6_28 g6_26 g6_29
 refine wpAnyM_take (i:=6) (v:=setV (T bn)) rfl (by kernel_rfl) (by kernel_rfl) (by kernel_rfl) (by kernel_rfl) (hp _ _) (yields_load rfl rfl g7_29 (fun W hW=>run_loadAt_row hW.1 hb)) hS ?_
 obtain⟨a8,e8⟩:∃x,a7.put opsR[6].dst (setV (T bn))=x:=⟨_,rfl⟩
 have z8:a8.tmps.size=37:=by rw[←e8];exact put_size.trans z7
 have g8_5:a8.eval (.tmp 5) = .pointer (some ⟨TB,0,none⟩):=by rw[←e8];exact(put_ne (by decide)).trans g7_5
 have g8_8:a8.eval (.tmp 8) = .pointer (some ⟨bB,0,none⟩):=by rw[←e8];exact(put_ne (by decide)).trans g7_8
 have g8_9:a8.eval (.tmp 9) = .int .i64 (sn:Int):=by rw[←e8];exact(put_ne (by decide)).trans g7_9
 have g8_24:a8.eval (.tmp 24) = .int .i64 (sn:Int):=by rw[←e8];exact(put_ne (by decide)).trans g7_24
 have g8_25:a8.eval (.tmp 25) = .int .i64 (sn:Int):=by rw[←e8];exact(put_ne (by decide)).trans g7_25
 have g8_31:a8.eval (.tmp 31) = .int .i64 (sn:Int):=by rw[←e8];exact(put_ne (by decide)).trans g7_31
 have g8_28:a8.eval (.tmp 28) = .int .i64 (bn:Int):=by rw[←e8];exact(put_ne (by decide)).trans g7_28
 have g8_26:a8.eval (.tmp 26) = .pointer (some ⟨TB,sn*16,none⟩):=by rw[←e8];exact(put_ne (by decide)).trans g7_26
 have g8_29:a8.eval (.tmp 29) = .pointer (some ⟨TB,bn*16,none⟩):=by rw[←e8];exact(put_ne (by decide)).trans g7_29
 have g8_27:a8.eval (.tmp 27)=setV (T sn):=by rw[←e8];exact(put_ne (by decide)).trans g7_27
 have g8_30:a8.eval (.tmp 30)=setV (T bn):=by rw[←e8];exact put_eq (by rw[z7];decide)
 rw[e8]
 clear e8 z7 g7_5 g7_8 g7_9 g7_24 g7_25 g7_31 g7_28 g7_26 g7_29 g7_27
 refine wpAnyM_one (i:=8) rfl rfl (by kernel_rfl) ?_
 refine wp_call_of (f:=155) (args := #[setV (T bn),.int .i64 (sn:Int)]) (run_call2 rfl g8_30 g8_31 (enters_of Tryz.func155 (by kernel_rfl) rfl) _) (with_any (T bn) sn hs w) ?_
 rintro e w1 ⟨rfl,b1⟩
 refine⟨_,rfl,fun _=>⟨hT.keep b1,(b1.block _ hbx.lt).trans hbx⟩,?_⟩
 have hS1:TabAt w1 TB T∧Boxed w1 bB 3 (.int .i64 (bn:Int)):=⟨hT.keep b1,(b1.block _ hbx.lt).trans hbx⟩
 obtain⟨a9,e9⟩:∃x,a8.put opsR[8].dst (setV (fun a=>T bn a || decide (a=sn)))=x:=⟨_,rfl⟩
 have z9:a9.tmps.size=37:=by rw[←e9];exact put_size.trans z8
 have g9_5:a9.eval (.tmp 5) = .pointer (some ⟨TB,0,none⟩):=by rw[←e9];exact(put_ne (by decide)).trans g8_5
 have g9_8:a9.eval (.tmp 8) = .pointer (some ⟨bB,0,none⟩):=by rw[←e9];exact(put_ne (by decide)).trans g8_8
 have g9_9:a9.eval (.tmp 9) = .int .i64 (sn:Int):=by rw[←e9];exact(put_ne (by decide)).trans g8_9
 have g9_24:a9.eval (.tmp 24) = .int .i64 (sn:Int):=by rw[←e9];exact(put_ne (by decide)).trans g8_24
 have g9_25:a9.eval (.tmp 25) = .int .i64 (sn:Int):=by rw[←e9];exact(put_ne (by decide)).trans g8_25
 have g9_31:a9.eval (.tmp 31) = .int .i64 (sn:Int):=by rw[←e9];exact(put_ne (by decide)).trans g8_31
 have g9_28:a9.eval (.tmp 28) = .int .i64 (bn:Int):=by rw[←e9];exact(put_ne (by decide)).trans g8_28
 have g9_26:a9.eval (.tmp 26) = .pointer (some ⟨TB,sn*16,none⟩):=by rw[←e9];exact(put_ne (by decide)).trans g8_26
 have g9_29:a9.eval (.tmp 29) = .pointer (some ⟨TB,bn*16,none⟩):=by rw[←e9];exact(put_ne (by decide)).trans g8_29
 have g9_27:a9.eval (.tmp 27)=setV (T sn):=by rw[←e9];exact(put_ne (by decide)).trans g8_27
 have g9_30:a9.eval (.tmp 30)=setV (T bn):=by rw[←e9];exact(put_ne (by decide)).trans g8_30
 have g9_32:a9.eval (.tmp 32)=setV (fun a=>T bn a || decide (a=sn)):=by rw[←e9];exact put_eq (by rw[z8];decide)
 rw[e9]
 clear e9 z8 g8_5 g8_8 g8_9 g8_24 g8_25 g8_31 g8_28 g8_26 g8_29 g8_27 g8_30
 refine wpAnyM_one (i:=9) rfl rfl (by kernel_rfl) ?_
 refine wp_call_of (f:=156) (args := #[setV (T sn),setV (fun a=>T bn a || decide (a=sn))]) (run_call2 rfl g9_27 g9_32 (enters_of Tryz.func156 (by kernel_rfl) rfl) _) (both_any (T sn) _ w1) ?_
 rintro e w2 ⟨rfl,b2⟩
 refine⟨_,rfl,fun _=>⟨hS1.1.keep b2,(b2.block _ hS1.2.lt).trans hS1.2⟩,?_⟩
 have hS2:TabAt w2 TB T∧Boxed w2 bB 3 (.int .i64 (bn:Int)):=⟨hS1.1.keep b2,(b2.block _ hS1.2.lt).trans hS1.2⟩
 obtain⟨a10,e10⟩:∃x,a9.put opsR[9].dst (setV (fun a=>T sn a && (T bn a || decide (a=sn))))=x:=⟨_,rfl⟩
 have z10:a10.tmps.size=37:=by rw[←e10];exact put_size.trans z9
 have g10_5:a10.eval (.tmp 5) = .pointer (some ⟨TB,0,none⟩):=by rw[←e10];exact(put_ne (by decide)).trans g9_5
 have g10_8:a10.eval (.tmp 8) = .pointer (some ⟨bB,0,none⟩):=by rw[←e10];exact(put_ne (by decide)).trans g9_8
 have g10_9:a10.eval (.tmp 9) = .int .i64 (sn:Int):=by rw[←e10];exact(put_ne (by decide)).trans g9_9
 have g10_24:a10.eval (.tmp 24) = .int .i64 (sn:Int):=by rw[←e10];exact(put_ne (by decide)).trans g9_24
 have g10_25:a10.eval (.tmp 25) = .int .i64 (sn:Int):=by rw[←e10];exact(put_ne (by decide)).trans g9_25
 have g10_31:a10.eval (.tmp 31) = .int .i64 (sn:Int):=by rw[←e10];exact(put_ne (by decide)).trans g9_31
 have g10_28:a10.eval (.tmp 28) = .int .i64 (bn:Int):=by rw[←e10];exact(put_ne (by decide)).trans g9_28
 have g10_26:a10.eval (.tmp 26) = .pointer (some ⟨TB,sn*16,none⟩):=by rw[←e10];exact(put_ne (by decide)).trans g9_26
 have g10_29:a10.eval (.tmp 29) = .pointer (some ⟨TB,bn*16,none⟩):=by rw[←e10];exact(put_ne (by decide)).trans g9_29
 have g10_27:a10.eval (.tmp 27)=setV (T sn):=by rw[←e10];exact(put_ne (by decide)).trans g9_27
 have g10_30:a10.eval (.tmp 30)=setV (T bn):=by rw[←e10];exact(put_ne (by decide)).trans g9_30
 have g10_32:a10.eval (.tmp 32)=setV (fun a=>T bn a || decide (a=sn)):=by rw[←e10];exact(put_ne (by decide)).trans g9_32
 have g10_33:a10.eval (.tmp 33)=setV (fun a=>T sn a && (T bn a || decide (a=sn))):=by rw[←e10];exact put_eq (by rw[z9];decide)
 rw[e10]
 clear e10 z9 g9_5 g9_8 g9_9 g9_24 g9_25 g9_31 g9_28 g9_26 g9_29 g9_27 g9_30 g9_32
 refine wpAnyM_take (i:=10) (v := .pointer (some ⟨TB,sn*16,none⟩)) rfl (by kernel_rfl) (by kernel_rfl) (by kernel_rfl) (by kernel_rfl) (hp _ _) (yields_index rfl rfl g10_5 g10_24 (fun W _=>run_indexAt_tab hs W)) hS2 ?_
 obtain⟨a11,e11⟩:∃x,a10.put opsR[10].dst (.pointer (some ⟨TB,sn*16,none⟩))=x:=⟨_,rfl⟩
 have z11:a11.tmps.size=37:=by rw[←e11];exact put_size.trans z10
 have g11_5:a11.eval (.tmp 5) = .pointer (some ⟨TB,0,none⟩):=by rw[←e11];exact(put_ne (by decide)).trans g10_5
 have g11_8:a11.eval (.tmp 8) = .pointer (some ⟨bB,0,none⟩):=by rw[←e11];exact(put_ne (by decide)).trans g10_8
 have g11_9:a11.eval (.tmp 9) = .int .i64 (sn:Int):=by rw[←e11];exact(put_ne (by decide)).trans g10_9
 have g11_24:a11.eval (.tmp 24) = .int .i64 (sn:Int):=by rw[←e11];exact(put_ne (by decide)).trans g10_24
 have g11_25:a11.eval (.tmp 25) = .int .i64 (sn:Int):=by rw[←e11];exact(put_ne (by decide)).trans g10_25
 have g11_31:a11.eval (.tmp 31) = .int .i64 (sn:Int):=by rw[←e11];exact(put_ne (by decide)).trans g10_31
 have g11_28:a11.eval (.tmp 28) = .int .i64 (bn:Int):=by rw[←e11];exact(put_ne (by decide)).trans g10_28
 have g11_26:a11.eval (.tmp 26) = .pointer (some ⟨TB,sn*16,none⟩):=by rw[←e11];exact(put_ne (by decide)).trans g10_26
 have g11_29:a11.eval (.tmp 29) = .pointer (some ⟨TB,bn*16,none⟩):=by rw[←e11];exact(put_ne (by decide)).trans g10_29
 have g11_27:a11.eval (.tmp 27)=setV (T sn):=by rw[←e11];exact(put_ne (by decide)).trans g10_27
 have g11_30:a11.eval (.tmp 30)=setV (T bn):=by rw[←e11];exact(put_ne (by decide)).trans g10_30
 have g11_32:a11.eval (.tmp 32)=setV (fun a=>T bn a || decide (a=sn)):=by rw[←e11];exact(put_ne (by decide)).trans g10_32
 have g11_33:a11.eval (.tmp 33)=setV (fun a=>T sn a && (T bn a || decide (a=sn))):=by rw[←e11];exact(put_ne (by decide)).trans g10_33
 have g11_34:a11.eval (.tmp 34) = .pointer (some ⟨TB,sn*16,none⟩):=by rw[←e11];exact put_eq (by rw[z10];decide)
 rw[e11]
 clear e11 z10 g10_5 g10_8 g10_9 g10_24 g10_25 g10_31 g10_28 g10_26 g10_29 g10_27 g10_30 g10_32 g10_33
 refine wpAnyM_one (i:=11) rfl rfl (by kernel_rfl) ?_
 refine wp_put_row _ _ rfl TB sn T (fun a=>T sn a && (T bn a || decide (a=sn))) hs g11_34 g11_33 hS2.1 ?_
 refine⟨fun h=>absurd rfl h,wpAnyM_done (by kernel_rfl) ?_ _⟩
 refine hQ _ _ (((FrX.ofBelow b1).trans (FrX.ofBelow b2)).trans (FrX.set _ _ _)) (below_setRow ((b1.mono (Nat.le_of_lt hT.lt)).trans (b2.mono (Nat.le_of_lt hS1.1.lt))) (Nat.le_refl _) _) ?_
 exact hS2.1.put
end Go.Proofs.YtfnilamkapabkaaGreatDoor
namespace Go.Proofs.YtfnilamkapabkaaGreatDoor
open Go.ChangeShapes Go.WideShapes Go.ChangeAt Go.RowKit Go.Shelf
set_option linter.unusedVariables false
attribute [local go_sem] Oper.semAt_some
theorem FrX.own {β:Type}{X:Nat}{w:World}:OwnFrom w.heap.size (fun(_:β) W=>FrX X w W):=fun s A B row hs hg hr=>
 ⟨Nat.le_trans hs.size hg.size,fun k hk hx=>(hg.block k (Nat.lt_of_lt_of_le hk hs.size) (fun e=>by have:=(hr k e.symm).1;omega)).trans (hs.block k hk hx)⟩
theorem TabAt.own {β:Type}{X B:Nat}{T:β→Tab}(hX:X<B):OwnFrom B (fun(s:β) W=>TabAt W X (T s)):=fun s A W row hs hg hr=>
 (hg.block X hs.lt (fun e=>by have:=(hr X e.symm).1;omega)).trans hs
theorem FrX.keepsFrom {X B:Nat}{w w':World}(h:FrX X w w')(hX:X<B):KeepsFrom B w w':=⟨h.size,fun i o hB hi ho=>(h.block i (Array.getElem?_eq_some_iff.1 hi).1 (by omega)).trans hi⟩
def marksOf (Ds:List Nat):List Deferred:=Ds.map (fun D=>{ target := .collected D,args := #[] })
structure MarksAt (lo:Nat)(w:World)(Ds:List Nat):Prop where
 nd:Ds.Nodup
 each:∀D∈Ds,lo≤D∧w.heap[D]? = some (.deferred (some []))
theorem MarksAt.keep {lo X:Nat}{w w':World}{Ds:List Nat}(h:MarksAt lo w Ds)(hf:FrX X w w')(hX:X<lo):MarksAt lo w' Ds :=
 ⟨h.nd,fun D hD=>⟨(h.each D hD).1,(hf.block D (Array.getElem?_eq_some_iff.1 (h.each D hD).2).1 (by have:=(h.each D hD).1;omega)).trans (h.each D hD).2⟩⟩
theorem leaves_marks {F:Fence}{n:Nat}{P:Program}{fn:Func}{tmps:Array Value}{R:Ending→World→Prop}{lo:Nat}:∀(Ds:List Nat) (w:World),MarksAt lo w Ds →
  (∀w',Below lo w w'→(∀k,k<lo→w'.heap[k]? = w.heap[k]?)→LeavesIn F n P fn tmps R [] .returning w')→lo≤w.heap.size→LeavesInM F n P fn tmps R (marksOf Ds) .returning w
 | [],w,_,h,hl=>h w (Below.refl _ _) (fun _ _=>rfl)
 | D :: Ds,w,hm,h,hl=>by
  have hD:=hm.each D (by simp)
  have hput:∀k,k≠D→(w.putObj D (.deferred none)).heap[k]? = w.heap[k]?:=fun k hk=>World.putObj_heap_other (by omega)
  have hbel:Below lo w (w.putObj D (.deferred none)):=⟨rfl,rfl,rfl,by simp[World.putObj],fun k hk=>hput k (by have:=hD.1;omega)⟩
  refine⟨by simp,.inl ⟨_,_,rfl,run_takeDeferred hD.2,?_⟩⟩
  refine leaves_marks Ds _ ⟨(List.nodup_cons.1 hm.nd).2,fun E hE=>⟨(hm.each E (by simp[hE])).1,?_⟩⟩ (fun w' hb hk=>h w' (hbel.trans hb) (fun k hk2=>(hk k hk2).trans (hput k (by omega)))) ?_
  ·rw[hput E (fun e=>(List.nodup_cons.1 hm.nd).1 (e▸hE))]
   exact(hm.each E (by simp[hE])).2
  ·have:=hbel.size
   omega
theorem operIn_wide {P:Program}{Q:Exit→Act→World→Prop}{n:Nat}{o:Oper}{a:Act}{w:World}{K:Act→World→Prop}(hd:∀c,o.op≠.defer c)(h:o.wp P a w K Q):o.wpIn Fence.wide n P a w K Q:=by
 unfold Oper.wpIn
 refine⟨fun _ _=>trivial,?_⟩
 rw[Oper.semAt_eq _ _ _ hd]
 unfold Oper.wp at h
 generalize (execOp a.eval o).run P w=r at *
 cases r with
 | ok x w'=>
  cases x <;> simp only[Oper.upon,Oper.uponIn] at h ⊢ <;>
   first
    | exact h
    | exact⟨fun e=>by simp[Fence.wide] at e,callsIn_wide.2 h⟩
    | exact⟨fun e=>by simp[Fence.wide] at e,fun c cs _=>let ⟨v,w',r,s⟩:=h c cs;⟨v,w',r,stepsIn_wide.2 s⟩⟩
 | halt x w'=>cases x <;> simp only[Oper.upon,Oper.uponIn] at h ⊢ <;> exact h
theorem wp_load_tab {o:Oper}{a:Act}{w:World}{K:Act→World→Prop}{Q:Exit→Act→World→Prop}(x:Operand)(ho:o.op = .load 95 x)(B:Nat)(hx:a.eval x = .pointer (some ⟨B,0,none⟩))(T:Tab)(hT:TabAt w B T)
  (h:K (a.put o.dst (tabV T)) w):o.wp Tryz.prog a w K Q:=by
 refine wp_load_mid 95 x ho B 0 hx (tabC T) _ ?_ Tryz.underlying95 rfl (by rw[tabC_len];exact info_tab) h
 have:=range_of_row hT
 simpa using this
theorem wp_store_tab {o:Oper}{a:Act}{w:World}{K:Act→World→Prop}{Q:Exit→Act→World→Prop}(x y:Operand)(ho:o.op = .store 95 x y)(B:Nat)(hx:a.eval x = .pointer (some ⟨B,0,none⟩))(T U:Tab)(hy:a.eval y=tabV U)(hT:TabAt w B T)
  (h:K (a.put o.dst undef) (w.setRow B (tabC U).toArray)):o.wp Tryz.prog a w K Q:=by
 unfold Oper.wp execOp
 simp only[ho,hx,hy,tabV,Instr.storeAt,Instr.sureAddr,Sem.run_bind,Sem.run_pure,Result.andThen_ok,run_storeVar_row w B 95 95 (tabC T).toArray (tabC U).toArray hT (by rw[List.size_toArray,tabC_len];exact info_tab) (by simp[tabC_len]) (all_oneCell_toArray (tabC_one _))]
 exact h
theorem wpListIn_load_tab {n:Nat}{ops:Array Oper}{rest:List Oper}{o:Oper}{a:Act}{w:World}{Q:Exit→Act→World→Prop}(hg:o.guard=none)(x:Operand)(ho:o.op = .load 95 x)(B:Nat)(hx:a.eval x = .pointer (some ⟨B,0,none⟩))(T:Tab)(hT:TabAt w B T)
  (h:wpListIn Fence.wide n Tryz.prog ops Q rest (a.put o.dst (tabV T)) w):wpListIn Fence.wide n Tryz.prog ops Q (o :: rest) a w :=
 wpListIn_plain hg fun K hK=>operIn_wide (by intro c e;rw[ho] at e;cases e) (wp_load_tab x ho B hx T hT (hK _ _ h))
theorem wpListIn_store_tab {n:Nat}{ops:Array Oper}{rest:List Oper}{o:Oper}{a:Act}{w:World}{Q:Exit→Act→World→Prop}(hg:o.guard=none)(x y:Operand)(ho:o.op = .store 95 x y)(B:Nat)(hx:a.eval x = .pointer (some ⟨B,0,none⟩))(T U:Tab)(hy:a.eval y=tabV U)(hT:TabAt w B T)
  (h:wpListIn Fence.wide n Tryz.prog ops Q rest (a.put o.dst undef) (w.setRow B (tabC U).toArray)):wpListIn Fence.wide n Tryz.prog ops Q (o :: rest) a w :=
 wpListIn_plain hg fun K hK=>operIn_wide (by intro c e;rw[ho] at e;cases e) (wp_store_tab x y ho B hx T U hy hT (hK _ _ h))
set_option maxRecDepth 100000 in
set_option maxHeartbeats 8000000 in
theorem domRound_any (v ov:Value)(F:FnD)(o:List Int)(T:Tab)(w:World)(hF:FnAt w v F)(hS:FnShape F)(ho:IntsAt w ov o)(hr:∀x∈o,0≤x∧x<(F.blocks.length:Int)) :
  Calls Tryz.prog 97 #[v,ov,tabV T] w fun e w'=>GivesTab w (rfold (edges (succsN F) o) T) e w':=by
 have HF:Hid (FnAt w v F):=hF
 obtain⟨m,HM⟩:∃n,Hid (F.blocks.length=n):=⟨_,rfl⟩
 obtain⟨vals,HV⟩:∃x,Hid (F.values=x):=⟨_,rfl⟩
 obtain⟨ba,bcap,rfl⟩:=hF.out HM.out HV.out
 have h16:m≤16:=by have:=hS.2.1;rw[HM.out] at this;omega
 have HSH:Hid (FnShape F):=hS
 have HR:Hid (∀x∈o,0≤x∧x<(m:Int)):=by rw[←HM.out];exact hr
 have HO:Hid (IntsAt w ov o):=ho
 obtain⟨oa,ocap,rfl,hmx,_⟩:=ho
 have HC:=HO.out.cells
 obtain⟨n,HN⟩:∃n,Hid (o.length=n):=⟨_,rfl⟩
 rw[HN.out] at hmx HC ⊢
 have HOC:Hid (∀wr,Below w.heap.size w wr→∀k,k<n→∃b off,oa=some ⟨b,off,none⟩∧wr.cell? ⟨b,off+k,none⟩=some (.int .i64 (o.getD k 0))):=HC
 have HEL:Hid (∀k,k<n→∃xn:Nat,o.getD k 0=(xn:Int)∧xn<m):=fun k hk=>by
  have:=HR.out _ (getD_mem (by rw[HN.out];exact hk))
  exact⟨(o.getD k 0).toNat,by omega,by omega⟩
 clear hr HC hF hS
 unfold tabV
 obtain⟨c,hc⟩:∃c,(tabC T).toArray=c:=⟨_,rfl⟩
 have HCC:Hid ((tabC T).toArray=c):=hc
 rw[hc]
 clear hc
 refine(callsIn_wide (n:=3)).1 ?_
 refine callsIn_of_wp_marks Tryz.func97 rfl trivial ?_ rfl
 simp only[Tryz.ntmps97,List.size_toArray,List.length_cons,List.length_nil,Nat.reduceAdd,Nat.reduceSub,Array.replicate_succ,Array.replicate_zero,List.push_toArray,List.append_toArray,List.nil_append,List.cons_append]
 gi_wp2_with fail
 obtain⟨wA,hwA⟩:∃wA,((w.alloc (.cells #[.slice ba m bcap,.int .i64 vals] 26)).alloc (.cells c 95)).alloc (.cells Tryz.zeroCells95 95)=wA:=⟨_,rfl⟩
 have hsA:wA.heap.size=w.heap.size+3:=by rw[←hwA];simp
 have BA:Hid (Below w.heap.size w wA):=by rw[←hwA];repeat (first | exact Below.refl _ _ | apply Below.drew | refine Below.alloc ?_ (by simp <;> omega) _ | refine Below.setCell ?_ (by simp <;> omega) _)
 have XA:Hid (wA.heap[w.heap.size]? = some (.cells #[.slice ba m bcap,.int .i64 vals] 26 (0,0))):=by
  rw[←hwA]
  exact(Below.heap_alloc _ _ _ (by simp;omega)).trans ((Below.heap_alloc _ _ _ (by simp)).trans (World.alloc_heap_new _ _))
 have TA:Hid (TabAt wA (w.heap.size+1) T):=by
  rw[←hwA,←HCC.out]
  exact(Below.heap_alloc _ _ _ (by simp)).trans (heap_last (by simp))
 have RA:Hid (TabAt wA (w.heap.size+1+1) (fun _ _=>false)):=by
  rw[←hwA,zeroCells_tab]
  exact heap_last (by simp)
 rw[hwA]
 clear hwA
 refine wpIn_loop (fun a W=>∃(k:Nat) (Ds:List Nat) (x8 x13 x14 x15 x16 x17 x18 x19 x20 x21 x22 x35:Value),k≤n∧a = { tmps := #[.agg #[.slice ba m bcap,.int .i64 vals],.slice oa n ocap,.agg c,.pointer (some ⟨w.heap.size,0,none⟩),undef,.pointer (some ⟨w.heap.size+1,0,none⟩),.pointer (some ⟨w.heap.size+1+1,0,none⟩),undef,x8,undef,.slice oa n ocap,.int .i64 (n:Int),.int .i64 (k:Int),x13,x14,x15,x16,x17,x18,x19,x20,x21,x22,undef,undef,undef,undef,undef,undef,undef,undef,undef,undef,undef,undef,x35,undef],defers:=marksOf Ds }∧MarksAt (w.heap.size+3) W Ds∧Below w.heap.size w W∧W.heap[w.heap.size]? = some (.cells #[.slice ba m bcap,.int .i64 vals] 26 (0,0))∧TabAt W (w.heap.size+1) (rfold (edges (succsN F) (o.take k)) T)∧TabAt W (w.heap.size+1+1) (fun _ _=>false)) (fun a _=>n-(intOf (a.eval (.tmp 12))).toNat) ?_ ?_
 ·exact⟨0,[],undef,undef,undef,undef,undef,undef,undef,undef,undef,undef,undef,undef,Nat.zero_le _,rfl,⟨List.nodup_nil,by simp⟩,BA.out,XA.out,TA.out,RA.out⟩
 rintro a W ⟨k,Ds,x8,x13,x14,x15,x16,x17,x18,x19,x20,x21,x22,x35,hk,rfl,hM,hB,hX,hT,hR⟩
 have MM:Hid (MarksAt (w.heap.size+3) W Ds):=hM
 have HB:Hid (Below w.heap.size w W):=hB
 have HX:Hid (W.heap[w.heap.size]? = some (.cells #[.slice ba m bcap,.int .i64 vals] 26 (0,0))):=hX
 have HT:Hid (TabAt W (w.heap.size+1) (rfold (edges (succsN F) (o.take k)) T)):=hT
 have HRR:Hid (TabAt W (w.heap.size+1+1) (fun _ _=>false)):=hR
 have hsW:w.heap.size+3≤W.heap.size:=by have:=hR.lt;omega
 have c0:W.cell? ⟨w.heap.size,0,none⟩=some (.slice ba m bcap):=by simp[World.cell?,hX]
 have c1:W.cell? ⟨w.heap.size,1,none⟩=some (.int .i64 vals):=by simp[World.cell?,hX]
 clear hM hB hX hT hR BA XA TA RA
 by_cases hlt:(k:Int)<(n:Int)
 ·obtain⟨xn,hxe,hxm⟩:=HEL.out k (by omega)
  obtain⟨b,off,rfl,q1⟩:=HOC.out W HB.out k (by omega)
  rw[hxe] at q1
  have HXE:Hid (o.getD k 0=(xn:Int)):=hxe
  obtain⟨bb,boff,x,rfl,hx,t0,t1,t2,t3⟩:=(HF.out.later HB.out).end (j:=xn) hxm
  have HSX:Hid (succsN F xn=succsT x.term):=succsN_at hx
  have hbb:bb<W.heap.size:=World.block_lt_of_cell? W _ t0
  have hw0:w.heap.size<W.heap.size:=by omega
  have hxmi:(xn:Int)<(m:Int):=by omega
  obtain⟨xp,xl,xk,xa,xt,xe⟩:=x
  dsimp only at t0 t1 t2 t3 HSX
  clear hxe hx
  gi_wp2_with (refine⟨trivial,?_⟩;gi_at_call 55;refine(callsIn_wide.2 (followers_any _ _ _ _ _)).mono ?_;rintro e w' ⟨rfl,rfl⟩)
  obtain⟨W2,hW2⟩:∃W2,(W.alloc (.cells #[.int .i64 (xn:Int)] 3)).alloc (.cells #[.int .i64 xk,.int .i64 xa,.int .i64 xt,.int .i64 xe] 42)=W2:=⟨_,rfl⟩
  have hs2:W2.heap.size=W.heap.size+2:=by rw[←hW2];simp
  have FR2:Hid (Below W.heap.size W W2):=by rw[←hW2];exact(Bel.alloc _ _).trans ((Bel.alloc _ _).mono (by simp))
  have hT2:EndBox W2 (W.heap.size+1) xk xa xt xe:=by
   rw[←hW2]
   have:=EndBox.new (W.alloc (.cells #[.int .i64 (xn:Int)] 3)) xk xa xt xe
   rw[World.size_alloc] at this
   exact this
  have BX2:Hid (Boxed W2 W.heap.size 3 (.int .i64 (xn:Int))):=by rw[←hW2];exact(Boxed.new W 3 _).alloc _
  have B2:Hid (Below w.heap.size w W2):=Bel.after HB.out FR2.out
  have TT2:Hid (TabAt W2 (w.heap.size+1) (rfold (edges (succsN F) (o.take k)) T)):=HT.out.keep FR2.out
  rw[hW2]
  clear hW2 c0 c1 t0 t1 t2 t3 q1
  have hQ:∀x∈succsV xk xt xe,0≤x∧x<(m:Int):=fun x hx=>by
   have:=succs_in HSH.out xn x (by rw[HSX.out];exact hx)
   rw[HM.out] at this
   exact this
  refine wpIn_rangeFunc_ownG (α := {x:Int // 0≤x∧x<(m:Int)}) rfl (by omega) (gf:=109) (lb := #[.pointer (some ⟨W.heap.size+1,0,none⟩)]) rfl trivial (enters_of Tryz.func109 (by kernel_rfl) rfl)
   (followers_stops (fun x=>0≤x∧x<(m:Int)) 2 (by omega) (W.heap.size+1) xk xa xt xe hQ W2 (by omega) hT2) keepsB_t (keepsB_b (by omega)) (Below.refl _ _) (fun _=>rfl)
   (fun pre Wx=>TabAt Wx (w.heap.size+1) (rfold (pre.map (fun s=>(xn,s.1.toNat))) (rfold (edges (succsN F) (o.take k)) T))∧FrX (w.heap.size+1) W2 Wx∧Below w.heap.size w Wx)
   (fun _ _ _=>False)
   (OwnFrom.and (TabAt.own (by omega)) (OwnFrom.and FrX.own (ownFrom_below (Nat.le_refl _) (by omega))))
   (fun _ _ _ _ _ hs _ _=>hs)
   ⟨TT2.out,FrX.refl _ _,B2.out⟩
   (fun x=>{ tmps := #[.agg #[.slice (some ⟨bb,boff,none⟩) m bcap,.int .i64 vals],.slice (some ⟨b,off,none⟩) n ocap,.agg c,.pointer (some ⟨w.heap.size,0,none⟩),undef,.pointer (some ⟨w.heap.size+1,0,none⟩),.pointer (some ⟨w.heap.size+1+1,0,none⟩),undef,.pointer (some ⟨W.heap.size,0,none⟩),.int .i64 x.1,.slice (some ⟨b,off,none⟩) n ocap,.int .i64 (n:Int),.int .i64 (k:Int),.bool true,.pointer (some ⟨b,off+k,none⟩),.int .i64 (xn:Int),.pointer (some ⟨w.heap.size,0,none⟩),.slice (some ⟨bb,boff,none⟩) m bcap,.int .i64 (xn:Int),.pointer (some ⟨bb,boff+xn*6,none⟩),.pointer (some ⟨bb,boff+xn*6+2,none⟩),.agg #[.int .i64 xk,.int .i64 xa,.int .i64 xt,.int .i64 xe],.func (.func 109) #[] #[.pointer (some ⟨W.heap.size+1,0,none⟩)],.int .i64 x.1,undef,undef,undef,undef,undef,undef,undef,undef,undef,undef,undef,x35,undef],defers := [] }) ?assign ?body ?done ?stop
  case assign=>
   intro l x Wx K hK
   gi_wp2
   exact hK
  case body=>
   rintro l pre ⟨x,hx0,hx1⟩ Wx ⟨hTx,hFx,hBx⟩ hlt2
   obtain⟨sn,rfl⟩:∃sn:Nat,x=(sn:Int):=⟨x.toNat,by omega⟩
   have HTX:Hid (TabAt Wx (w.heap.size+1) (rfold (pre.map (fun s=>(xn,s.1.toNat))) (rfold (edges (succsN F) (o.take k)) T))):=hTx
   have HFX:Hid (FrX (w.heap.size+1) W2 Wx):=hFx
   have HBX:Hid (Below w.heap.size w Wx):=hBx
   have BXX:Hid (Boxed Wx W.heap.size 3 (.int .i64 (xn:Int))):=(hFx.block _ (by omega) (by omega)).trans BX2.out
   clear hTx hFx hBx hlt2
   gi_wp2_with fail
   refine region_round 11 (fun Wz=>TabAt Wz (w.heap.size+1) (rfold (pre.map (fun s=>(xn,s.1.toNat))) (rfold (edges (succsN F) (o.take k)) T))∧Boxed Wz W.heap.size 3 (.int .i64 (xn:Int))) (by kernel_rfl) (by kernel_rfl) ?_
   refine domBody (w.heap.size+1) W.heap.size _ xn sn (by omega) (by omega) _ ?_ ?_ ?_ ?_ Wx.drew HTX.out BXX.out _ ?_ ?_
   ·rfl
   ·rfl
   ·rfl
   ·rfl
   ·exact fun c a w h=>h
   intro a' W' fr bl tt
   have hsx:=HFX.out.size
   have fr2:FrX (w.heap.size+1) Wx W':=⟨fr.size,fr.block⟩
   refine⟨fr2.keepsFrom (by omega),fr2.block _ (by omega) (by omega),?_,HFX.out.trans fr2,HBX.out.drew.trans (bl.mono (by omega))⟩
   have e:rfold ((pre ++ [(⟨(sn:Int),hx0,hx1⟩:{x:Int // 0≤x∧x<(m:Int)})]).map (fun s=>(xn,s.1.toNat))) (rfold (edges (succsN F) (o.take k)) T)=rstep (rfold (pre.map (fun s=>(xn,s.1.toNat))) (rfold (edges (succsN F) (o.take k)) T)) (xn,sn):=by
    simp[rfold]
   rw[e]
   exact tt
  case done=>
   rintro D ys Wy hD hS ⟨hTy,hFy,hBy⟩ hK
   have HTY:Hid (TabAt Wy (w.heap.size+1) (rfold (edges (succsN F) (o.take (k+1))) T)):=by
    rw[take_nextI (by rw[HN.out];omega),edges_snoc,rfold_append,HXE.out]
    have e:edgesOf (succsN F) ((xn:Int)).toNat (succsN F ((xn:Int)).toNat)=ys.map (fun s=>(xn,s.1.toNat)):=by
     have e2:((xn:Int)).toNat=xn:=by simp
     have e3:succsN F xn=ys.map (fun x=>x.1):=HSX.out.trans hS.symm
     rw[e2,e3]
     simp[edgesOf]
    rw[e]
    exact hTy
   have HBY:Hid (Below w.heap.size w Wy):=hBy
   have HMY:Hid (MarksAt (w.heap.size+3) Wy (D :: Ds)):=by
    have h2:=(MM.out.keep (FrX.ofBelow (X:=w.heap.size+1) FR2.out) (by omega)).keep hFy (by omega)
    refine⟨List.nodup_cons.2 ⟨fun hm=>?_,h2.nd⟩,fun E hE=>?_⟩
    ·have:=(Array.getElem?_eq_some_iff.1 (MM.out.each D hm).2).1
     omega
    ·rcases List.mem_cons.1 hE with rfl | hE
     ·exact⟨by omega,hK⟩
     ·exact h2.each E hE
   have HXY:Hid (Wy.heap[w.heap.size]? = some (.cells #[.slice (some ⟨bb,boff,none⟩) m bcap,.int .i64 vals] 26 (0,0))):=(hFy.block _ (by omega) (by omega)).trans ((FR2.out.block _ (by omega)).trans HX.out)
   have HRY:Hid (TabAt Wy (w.heap.size+1+1) (fun _ _=>false)):=(hFy.block _ (by omega) (by omega)).trans (HRR.out.keep FR2.out)
   clear hTy hFy hBy
   gi_wp2
   refine⟨⟨k+1,D :: Ds,_,_,_,_,_,_,_,_,_,_,_,_,by omega,rfl,HMY.out,HBY.out,HXY.out,HTY.out,HRY.out⟩,?_⟩
   simp[intOf,Act.eval]
   omega
  case stop=>
   rintro D cc pre Wy _ _ h _
   exact h.elim
 ·have hkn:k=n:=by omega
  subst hkn
  gi_wp2_with (first
   | refine wpListIn_load_tab rfl _ rfl (w.heap.size+1) rfl _ HT.out ?_
   | refine wpListIn_store_tab rfl _ _ rfl (w.heap.size+1+1) rfl _ _ rfl HRR.out ?_)
  have R2:Hid (TabAt (W.setRow (w.heap.size+1+1) (tabC (rfold (edges (succsN F) (List.take k o)) T)).toArray) (w.heap.size+1+1) (rfold (edges (succsN F) (List.take k o)) T)):=HRR.out.put
  have B2:Hid (Below w.heap.size w (W.setRow (w.heap.size+1+1) (tabC (rfold (edges (succsN F) (List.take k o)) T)).toArray)):=below_setRow HB.out (by omega) _
  have M2:Hid (MarksAt (w.heap.size+3) (W.setRow (w.heap.size+1+1) (tabC (rfold (edges (succsN F) (List.take k o)) T)).toArray) Ds):=MM.out.keep (FrX.set _ _ _) (by omega)
  refine leaves_marks (lo:=w.heap.size+3) Ds _ M2.out (fun w' hb hk2=>?_) (by simpa using hsW)
  refine⟨_,row_results rfl rfl ((hk2 (w.heap.size+1+1) (by omega)).trans R2.out) Tryz.underlying95 rfl (by rw[List.size_toArray,tabC_len];exact info_tab),?_,B2.out.trans (hb.mono (by omega))⟩
  rw[←HN.out,List.take_length]
  rfl
end Go.Proofs.YtfnilamkapabkaaGreatDoor
namespace Go.Proofs.YtfnilamkapabkaaGreatDoor
open Go.ChangeShapes Go.WideShapes Go.ChangeAt Go.RowKit Go.Shelf
set_option linter.unusedVariables false
def tabOf (w:World)(B:Nat):Tab:=fun b a=>match w.cell? ⟨B,b*16+a,none⟩ with | some (.bool x)=>x | _=>false
theorem TabAt.read {w:World}{B:Nat}{T:Tab}(h:TabAt w B T):TEq (tabOf w B) T:=fun b a hb ha=>by
 have e:=tabC_at T (k:=b*16+a) (by omega)
 have e1:(b*16+a) / 16=b:=by omega
 have e2:(b*16+a) % 16=a:=by omega
 rw[e1,e2] at e
 simp[tabOf,World.cell?,show w.heap[B]? = _ from h,e]
theorem cnt_congr {T U:Tab}(h:TEq T U):cnt T=cnt U:=by
 unfold cnt
 congr 1
 refine List.filter_congr (fun k hk=>?_)
 have:k<256:=by simpa using hk
 exact h _ _ (by omega) (by omega)
theorem startL_start {F:FnD}(hS:FnShape F):startL (wayOf F).2.reverse=start (wayOf F).1:=by
 funext b a
 have h:∀x:Nat,inL (wayOf F).2.reverse x=decide (x∈(wayOf F).1):=fun x=>by
  unfold inL
  have:=wayOf_same F x
  simp[this]
 unfold startL putT start
 simp only[h]
theorem wpList_load_tab {ops:Array Oper}{rest:List Oper}{o:Oper}{a:Act}{w:World}{Q:Exit→Act→World→Prop}(hg:o.guard=none)(x:Operand)(ho:o.op = .load 95 x)(B:Nat)(hx:a.eval x = .pointer (some ⟨B,0,none⟩))(T:Tab)(hT:TabAt w B T)
  (h:wpList Tryz.prog ops Q rest (a.put o.dst (tabV T)) w):wpList Tryz.prog ops Q (o :: rest) a w :=
 wpList_plain hg fun K hK=>wp_load_tab x ho B hx T hT (hK _ _ h)
theorem wpList_store_tab {ops:Array Oper}{rest:List Oper}{o:Oper}{a:Act}{w:World}{Q:Exit→Act→World→Prop}(hg:o.guard=none)(x y:Operand)(ho:o.op = .store 95 x y)(B:Nat)(hx:a.eval x = .pointer (some ⟨B,0,none⟩))(T U:Tab)(hy:a.eval y=tabV U)(hT:TabAt w B T)
  (h:wpList Tryz.prog ops Q rest (a.put o.dst undef) (w.setRow B (tabC U).toArray)):wpList Tryz.prog ops Q (o :: rest) a w :=
 wpList_plain hg fun K hK=>wp_store_tab x y ho B hx T U hy hT (hK _ _ h)
theorem tab_alloc (w:World):TabAt (w.alloc (.cells Tryz.zeroCells95 95)) w.heap.size (fun _ _=>false):=by
 rw[zeroCells_tab]
 exact World.alloc_heap_new _ _
theorem tab_neq (T U:Tab)(w:World):(binOp .neq 95 (tabV T) (tabV U)).run Tryz.prog w = .ok (.bool (!sameT T U)) w:=by
 have h:=tab_equal T U 9997 w
 unfold tabV at h ⊢
 rw[run_neq_struct,h]
 rfl
theorem tab_guard (op:BinOp)(x y:Operand)(T U:Tab)(w:World):(eqGuard op 95 x y (tabV T) (tabV U)).run Tryz.prog w = .ok () w:=run_eqGuard_agg w op _ x y _ _ Tryz.eqGuardType95
set_option maxRecDepth 100000 in
set_option maxHeartbeats 4000000 in
theorem domsOf_any (v:Value)(F:FnD)(w:World)(hF:FnAt w v F)(hS:FnShape F) :
  Calls Tryz.prog 49 #[v] w fun e w'=>GivesTab w (fun b a=>domB F a b) e w':=by
 have HF:Hid (FnAt w v F):=hF
 have HS:Hid (FnShape F):=hS
 obtain⟨n,HN⟩:∃n,Hid (F.blocks.length=n):=⟨_,rfl⟩
 obtain⟨vals,HV⟩:∃x,Hid (F.values=x):=⟨_,rfl⟩
 obtain⟨ba,bcap,rfl⟩:=hF.out HN.out HV.out
 have h16:n≤16:=by rw[←HN.out];exact hS.2.1
 clear hF hS
 obtain⟨o,HO⟩:∃o,Hid ((wayOf F).2.reverse=o):=⟨_,rfl⟩
 have HR:Hid (∀x∈o,0≤x∧x<(F.blocks.length:Int)):=fun x hx=>by
  rw[←HO.out] at hx
  exact(wayOf_len HS.out).2.2 x (by simpa using hx)
 obtain⟨E,HE⟩:∃E,Hid (edges (succsN F) o=E):=⟨_,rfl⟩
 have HI0:Hid (TInv F (startL o)):=by rw[←HO.out,startL_start HS.out];exact TInv.start HS.out
 have HIN:Hid (∀T,TInv F T→TInv F (rfold E T)):=fun T h=>by
  rw[←HE.out,←HO.out]
  exact TInv.fold HS.out _ h (edges_ok HS.out)
 have HEND:Hid (∀T,TInv F T→TEq (rfold E T) T→TEq T (fun b a=>domB F a b)):=fun T h hf b a hb ha=>by
  rw[←HE.out,←HO.out] at hf
  exact TInv.ends HS.out h hf hb ha
 go_enter Tryz.func49,Tryz.ntmps49
 go_wp2_with fail
 obtain⟨wA,hwA⟩:∃wA,(w.alloc (.cells #[.slice ba n bcap,.int .i64 vals] 26)).alloc (.cells Tryz.zeroCells95 95)=wA:=⟨_,rfl⟩
 have hsA:wA.heap.size=w.heap.size+2:=by rw[←hwA];simp
 have BA:Hid (Below w.heap.size w wA):=by rw[←hwA];repeat (first | exact Below.refl _ _ | apply Below.drew | refine Below.alloc ?_ (by simp <;> omega) _ | refine Below.setCell ?_ (by simp <;> omega) _)
 have XA:Hid (wA.heap[w.heap.size]? = some (.cells #[.slice ba n bcap,.int .i64 vals] 26 (0,0))):=by
  rw[←hwA]
  exact(Below.heap_alloc _ _ _ (by simp)).trans (World.alloc_heap_new _ _)
 have RA:Hid (TabAt wA (w.heap.size+1) (fun _ _=>false)):=by
  rw[←hwA,zeroCells_tab]
  exact heap_last (by simp)
 try rw[hwA]
 clear hwA
 refine(impl_order _ F _ (HF.out.later BA.out)).mono ?_
 rintro e w1 ⟨ov,rfl,o1,b1⟩
 rw[orderOf_yes HS.out,HO.out] at o1
 have O1:Hid (IntsAt w1 ov o):=o1.at
 have HOB:Hid (∀k,ov.ownBlock=some k→k<w1.heap.size):=fun k hk=>(World.ownsRow.lt o1 k hk).2
 have B1:Hid (Below w.heap.size w w1):=Bel.after BA.out b1
 have X1:Hid (w1.heap[w.heap.size]? = some (.cells #[.slice ba n bcap,.int .i64 vals] 26 (0,0))):=(b1.block _ (by omega)).trans XA.out
 have R1:Hid (TabAt w1 (w.heap.size+1) (fun _ _=>false)):=RA.out.keep b1
 have hs1:w.heap.size+2≤w1.heap.size:=by have:=b1.size;omega
 clear b1 o1 BA XA RA
 go_wp2_with fail
 refine(domStart_any ov o _ O1.out (fun x hx=>by have:=HR.out x hx;rw[HN.out] at this;omega)).mono ?_
 rintro e w2 ⟨rfl,b2⟩
 have O2:Hid (IntsAt w2 ov o):=O1.out.keep b2
 have B2:Hid (Below w.heap.size w w2):=Bel.after B1.out b2
 have X2:Hid (w2.heap[w.heap.size]? = some (.cells #[.slice ba n bcap,.int .i64 vals] 26 (0,0))):=(b2.block _ (by omega)).trans X1.out
 have R2:Hid (TabAt w2 (w.heap.size+1) (fun _ _=>false)):=R1.out.keep b2
 have hs2:w.heap.size+2≤w2.heap.size:=by have:=b2.size;omega
 have HOB2:Hid (∀k,ov.ownBlock=some k→k<w2.heap.size):=fun k hk=>Nat.lt_of_lt_of_le (HOB.out k hk) b2.size
 clear HOB b2 O1 B1 X1 R1 hs1 hsA
 go_wp2_with (first
  | (refine wpList_store_tab rfl _ _ rfl w2.heap.size rfl (fun _ _=>false) (startL o) rfl (tab_alloc w2) ?_;obtain⟨w3,hw3⟩:∃w3,(w2.alloc (.cells Tryz.zeroCells95 95)).setRow w2.heap.size (tabC (startL o)).toArray=w3:=⟨_,rfl⟩;have b3:Below w2.heap.size w2 w3:=(by rw[←hw3];exact below_setRow (Bel.alloc _ _) (Nat.le_refl _) _);have T3:Hid (TabAt w3 w2.heap.size (startL o)):=(by rw[←hw3];exact(tab_alloc w2).put);have hs3:w3.heap.size=w2.heap.size+1:=(by rw[←hw3];simp);have O3:Hid (IntsAt w3 ov o):=O2.out.keep b3;have B3:Hid (Below w.heap.size w w3):=Bel.after B2.out b3;have x3:w3.heap[w.heap.size]? = some (.cells #[.slice ba n bcap,.int .i64 vals] 26 (0,0)):=(b3.block _ (by omega)).trans X2.out;have X3:Hid (w3.heap[w.heap.size]? = some (.cells #[.slice ba n bcap,.int .i64 vals] 26 (0,0))):=x3;have R3:Hid (TabAt w3 (w.heap.size+1) (fun _ _=>false)):=R2.out.keep b3;have c0:w3.cell? ⟨w.heap.size,0,none⟩=some (.slice ba n bcap):=(by simp[World.cell?,x3]);have c1:w3.cell? ⟨w.heap.size,1,none⟩=some (.int .i64 vals):=(by simp[World.cell?,x3]);rw[hw3];clear hw3 b3 x3 O2 B2 X2 R2)
  | refine wpList_load_tab rfl _ rfl w2.heap.size rfl (startL o) T3.out ?_)
 refine(domRound_any _ ov F o (startL o) _ (HF.out.later B3.out) HS.out O3.out HR.out).mono ?_
 rw[HE.out]
 rintro e w4 ⟨rfl,b4⟩
 have O4:Hid (IntsAt w4 ov o):=O3.out.keep b4
 have B4:Hid (Below w.heap.size w w4):=Bel.after B3.out b4
 have X4:Hid (w4.heap[w.heap.size]? = some (.cells #[.slice ba n bcap,.int .i64 vals] 26 (0,0))):=(b4.block _ (by omega)).trans X3.out
 have R4:Hid (TabAt w4 (w.heap.size+1) (fun _ _=>false)):=R3.out.keep b4
 have T4:Hid (TabAt w4 w2.heap.size (startL o)):=T3.out.keep b4
 have hs4:w2.heap.size+1≤w4.heap.size:=by have:=b4.size;omega
 clear b4 O3 B3 X3 R3 T3 c0 c1 hs3
 go_wp2_with (refine wpList_store_tab rfl _ _ rfl w4.heap.size rfl (fun _ _=>false) (rfold E (startL o)) rfl (tab_alloc w4) ?_;obtain⟨w5,hw5⟩:∃w5,(w4.alloc (.cells Tryz.zeroCells95 95)).setRow w4.heap.size (tabC (rfold E (startL o))).toArray=w5:=⟨_,rfl⟩;have b5:Below w4.heap.size w4 w5:=(by rw[←hw5];exact below_setRow (Bel.alloc _ _) (Nat.le_refl _) _);have N5:Hid (TabAt w5 w4.heap.size (rfold E (startL o))):=(by rw[←hw5];exact(tab_alloc w4).put);have O5:Hid (IntsAt w5 ov o):=O4.out.keep b5;have B5:Hid (Below w.heap.size w w5):=Bel.after B4.out b5;have X5:Hid (w5.heap[w.heap.size]? = some (.cells #[.slice ba n bcap,.int .i64 vals] 26 (0,0))):=(b5.block _ (by omega)).trans X4.out;have R5:Hid (TabAt w5 (w.heap.size+1) (fun _ _=>false)):=R4.out.keep b5;have T5:Hid (TabAt w5 w2.heap.size (startL o)):=T4.out.keep b5;rw[hw5];clear hw5 b5 O4 B4 X4 R4 T4)
 obtain⟨TB,hTB⟩:∃x,w2.heap.size=x:=⟨_,rfl⟩
 obtain⟨NB,hNB⟩:∃x,w4.heap.size=x:=⟨_,rfl⟩
 rw[hTB] at T5 hs2 hs4 ⊢
 rw[hNB] at N5 hs4 ⊢
 rw[hTB] at HOB2
 clear hTB hNB
 dsimp only[Act.put]
 have HIO:Hid (∀wr,Below TB w5 wr→IntsAt wr ov o):=fun wr hb=>O5.out.under hb HOB2.out
 have HIX:Hid (∀wr,Below TB w5 wr→wr.heap[w.heap.size]? = some (.cells #[.slice ba n bcap,.int .i64 vals] 26 (0,0))):=fun wr hb=>(hb.block _ (by omega)).trans X5.out
 have HIR:Hid (∀wr,Below TB w5 wr→TabAt wr (w.heap.size+1) (fun _ _=>false)):=fun wr hb=>(hb.block _ (by omega)).trans R5.out
 have HIB:Hid (∀wr,Below TB w5 wr→Below w.heap.size w wr):=fun wr hb=>B5.out.trans (hb.mono (by omega))
 clear O5 X5 R5 B5 HOB2
 go_loopw [16] (fun _ wr=>∃T,TInv F T∧TabAt wr TB T∧TabAt wr NB (rfold E T)∧Below TB w5 wr) (fun _ wr=>cnt (tabOf wr TB))
 case atStart=>exact⟨startL o,HI0.out,T5.out,N5.out,Below.refl _ _⟩
 case round=>
  obtain⟨T,hI,hT,hN,hB⟩:=hrel
  have HI:Hid (TInv F T):=hI
  have HT:Hid (TabAt wr TB T):=hT
  have HNX:Hid (TabAt wr NB (rfold E T)):=hN
  have HB:Hid (Below TB w5 wr):=hB
  have x0:=HIX.out wr hB
  have c0:wr.cell? ⟨w.heap.size,0,none⟩=some (.slice ba n bcap):=by simp[World.cell?,x0]
  have c1:wr.cell? ⟨w.heap.size,1,none⟩=some (.int .i64 vals):=by simp[World.cell?,x0]
  have hq:=tab_neq (rfold E T) T
  have hgd:=fun x y=>tab_guard .neq x y (rfold E T) T
  clear hI hT hN hB x0
  cases hs:sameT (rfold E T) T with
  | false=>
   have HNE:Hid (¬TEq (rfold E T) T):=fun h=>by rw[sameT_iff.2 h] at hs;cases hs
   rw[hs] at hq
   clear hs
   go_wp2_with (first
    | refine wpList_load_tab rfl _ rfl NB rfl _ HNX.out ?_
    | refine wpList_load_tab rfl _ rfl TB rfl _ HT.out ?_
    | (refine wpList_store_tab rfl _ _ rfl TB rfl _ (rfold E T) rfl HT.out ?_;obtain⟨w6,hw6⟩:∃w6,wr.setRow TB (tabC (rfold E T)).toArray=w6:=⟨_,rfl⟩;have B6:Hid (Below TB w5 w6):=(by rw[←hw6];exact below_setRow HB.out (Nat.le_refl _) _);have T6:Hid (TabAt w6 TB (rfold E T)):=(by rw[←hw6];exact HT.out.put);have N6:Hid (TabAt w6 NB (rfold E T)):=(by rw[←hw6];exact HNX.out.far (by omega) _);rw[hw6];have x6:=HIX.out w6 B6.out;have d0:w6.cell? ⟨w.heap.size,0,none⟩=some (.slice ba n bcap):=(by simp[World.cell?,x6]);have d1:w6.cell? ⟨w.heap.size,1,none⟩=some (.int .i64 vals):=(by simp[World.cell?,x6]);clear hw6 x6)
    | refine wpList_load_tab rfl _ rfl TB rfl _ T6.out ?_)
   refine(domRound_any _ ov F o (rfold E T) _ (HF.out.later (HIB.out _ B6.out)) HS.out (HIO.out _ B6.out) HR.out).mono ?_
   rw[HE.out]
   rintro e w7 ⟨rfl,b7⟩
   have hT6:=T6.out.lt
   have B7:Hid (Below TB w5 w7):=B6.out.trans (b7.mono (by omega))
   have T7:Hid (TabAt w7 TB (rfold E T)):=T6.out.keep b7
   have N7:Hid (TabAt w7 NB (rfold E T)):=N6.out.keep b7
   clear b7 d0 d1 c0 c1 hT6
   go_wp2_with (refine wpList_store_tab rfl _ _ rfl NB rfl _ (rfold E (rfold E T)) rfl N7.out ?_)
   dsimp only[Act.put]
   go_roundw
   case rel=>exact⟨rfold E T,HIN.out T HI.out,T7.out.far (by omega) _,N7.out.put,below_setRow B7.out (by omega) _⟩
   case measure=>
    rw[cnt_congr (T7.out.far (by omega) _).read,cnt_congr HT.out.read]
    exact cnt_lt (fun x a h=>rfold_le E h) HNE.out
  | true=>
   have HEQ:Hid (TEq (rfold E T) T):=sameT_iff.1 hs
   rw[hs] at hq
   clear hs
   have RR:Hid (TabAt wr (w.heap.size+1) (fun _ _=>false)):=HIR.out wr HB.out
   have BB:Hid (Below w.heap.size w wr):=HIB.out wr HB.out
   go_wp2_with (first
    | refine wpList_load_tab rfl _ rfl NB rfl _ HNX.out ?_
    | refine wpList_load_tab rfl _ rfl TB rfl _ HT.out ?_
    | refine wpList_store_tab rfl _ _ rfl (w.heap.size+1) rfl _ T rfl RR.out ?_)
   refine bodyPost_ret (v:=tabV T) (row_results rfl rfl RR.out.put Tryz.underlying95 rfl (by rw[List.size_toArray,tabC_len];exact info_tab)) rfl ?_
   refine⟨?_,below_setRow BB.out (by omega) _⟩
   unfold tabV
   rw[tabC_congr (HEND.out T HI.out HEQ.out)]
end Go.Proofs.YtfnilamkapabkaaGreatDoor
