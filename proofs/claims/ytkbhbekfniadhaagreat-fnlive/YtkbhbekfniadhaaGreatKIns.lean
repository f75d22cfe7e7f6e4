/- The struct arguments of the laws, read as numbers. What a place makes and takes: the program's InsDef and the model's answer alike, for every place. Programs in memory: what a value of type Fn reads as, kept while the world only grows; the laws' own Fn, read. Lists of numbers in memory: compared, marked, held against the marks. What places and ends take: the program's InsUses and TermUses and the model's answer alike, each in new memory. -/
import Derived.Test.YtkbhbekfniadhaaGreatTk0
import Derived.WalkKit
import Derived.ProofKit
import Derived.OpenShut
import Derived.Lib.SmallJoins
import Derived.Below
import Derived.Laws.ResultCell
import Derived.Deep.Slices
import Derived.Handy
import Derived.Deep.QuietTactic
import Derived.BigQuiet
set_option maxRecDepth 100000
set_option maxHeartbeats 1000000
namespace Go.Proofs.YtkbhbekfniadhaaGreat
open Go.ChangeShapes Go.WideShapes Go.ChangeAt Go.RowKit
set_option linter.unusedVariables false
theorem Bel.after {a b c:World}(h:Below a.heap.size a b)(k:Below b.heap.size b c):Below a.heap.size a c:=h.trans (k.mono h.size)
theorem Bel.alloc (w:World)(o:Obj):Below w.heap.size w (w.alloc o):=(Below.refl _ _).alloc (Nat.le_refl _) o
theorem zB {w w2:World}{o:Obj}(h:Below (w.alloc o).heap.size (w.alloc o) w2)(j:Nat):w2.cell? (Z w.heap.size j)=(w.alloc o).cell? (Z w.heap.size j):=h.cell (by simp)
theorem Bel.keeps {w w':World}(h:Below w.heap.size w w'){p:Addr}{v:Value}(hc:w.cell? p=some v):w'.cell? p=some v:=by
 rw[h.cell (World.block_lt_of_cell? w _ hc)];exact hc
def xq (op:Int):Bool:=decide (1≤op∧op≤10)
theorem Qk {op:Int}(h1:1≤op)(h2:op≤10):xq op=true:=by simp[xq,h1,h2]
theorem XJ {op:Int}(h1:¬1≤op):xq op=false:=by simp[xq,h1]
theorem XK {op:Int}(h1:¬op≤10):xq op=false:=by simp[xq,h1]
theorem qS (op:Int)(w:World) :
  Calls Tryz.prog 95 #[vi op] w fun e w'=>e=.returned (.bool (xq op))∧w'=w:=by
 by_cases h1:1≤op
 ·by_cases h2:op≤10
  ·rw[Qk h1 h2];go_enter Tryz.func95,Tryz.ntmps95
   go_wp2;go_ret;exact⟨rfl,rfl⟩
  ·rw[XK h2];go_enter Tryz.func95,Tryz.ntmps95
   go_wp2;go_ret;exact⟨rfl,rfl⟩
 ·rw[XJ h1];go_enter Tryz.func95,Tryz.ntmps95
  go_wp2;go_ret;exact⟨rfl,rfl⟩
theorem impl_wordOk (op:Int)(w:World) :
  Calls Tryz.prog 79 #[vi op] w fun e w'=>e=.returned (.bool (xq op))∧w'=w:=by
 by_cases h1:1≤op
 ·by_cases h2:op≤10
  ·rw[Qk h1 h2];have h3:op<11:=by omega
   go_enter Tryz.func79,Tryz.ntmps79
   go_wp2;go_ret;exact⟨rfl,rfl⟩
  ·rw[XK h2];have h3:¬op<11:=by omega
   go_enter Tryz.func79,Tryz.ntmps79
   go_wp2;go_ret;exact⟨rfl,rfl⟩
 ·rw[XJ h1];go_enter Tryz.func79,Tryz.ntmps79
  go_wp2;go_ret;exact⟨rfl,rfl⟩
theorem Jz (op:Int):op=20∨op=21∨op=22∨op=23∨op=24∨op=25∨(((op == 20)=false∧(op == 21)=false∧(op == 22)=false∧(op == 23)=false∧(op == 24)=false∧(op == 25)=false)∧((1≤op∧op≤10)∨¬1≤op∨(1≤op∧¬op≤10))):=by
 simp only[beq_eq_false_iff_ne,ne_eq];omega
def kD (op:Int):Bool:=decide ((1≤op∧op≤10)∨op=20∨op=21∨op=24∨op=25)
def jX (op d:Int):Int:=if kD op=true then d else -1
def XM (op d:Int):Int:=if kD op=true then d else 0
def qh (op d a b n:Int):Value :=
 if op=20 then .iface 122 (.agg #[vi d,vi n])
 else if op=21 then .iface 115 (.agg #[vi d,vi a])
 else if op=22 then .iface 117 (.agg #[vi a,vi b])
 else if op=23 then .iface 119 (.agg #[vi a])
 else if op=24 then .iface 124 (.agg #[vi d])
 else if op=25 then .iface 120 (.agg #[vi d,vi a])
 else if 1≤op∧op≤10 then .iface 113 (.agg #[vi op,vi d,vi a,vi b])
 else .nilIface
theorem Ql {op:Int}(h:1≤op)(h1:op≤10):kD op=true:=by simp[kD,h,h1]
theorem ZB {op:Int}(e0:(op == 20)=false)(e1:(op == 21)=false)(e2:(op == 22)=false)(e3:(op == 23)=false)(e4:(op == 24)=false)(e5:(op == 25)=false)(h:¬(1≤op∧op≤10)):kD op=false:=by
 simp only[beq_eq_false_iff_ne,ne_eq] at e0 e1 e2 e3 e4 e5;simp only[kD,decide_eq_false_iff_not];omega
theorem ac1 {op d:Int}(h:1≤op)(h1:op≤10):jX op d=d:=by simp[jX,Ql h h1]
theorem ac2 {op d:Int}(e0:(op == 20)=false)(e1:(op == 21)=false)(e2:(op == 22)=false)(e3:(op == 23)=false)(e4:(op == 24)=false)(e5:(op == 25)=false)(h:¬(1≤op∧op≤10)):jX op d = -1:=by simp[jX,ZB e0 e1 e2 e3 e4 e5 h]
theorem yu {op d a b n:Int}(e0:(op == 20)=false)(e1:(op == 21)=false)(e2:(op == 22)=false)(e3:(op == 23)=false)(e4:(op == 24)=false)(e5:(op == 25)=false)(h:1≤op)(h1:op≤10):qh op d a b n=.iface 113 (.agg #[vi op,vi d,vi a,vi b]):=by
 simp only[beq_eq_false_iff_ne,ne_eq] at e0 e1 e2 e3 e4 e5;simp[qh,e0,e1,e2,e3,e4,e5,h,h1]
theorem JA {op d a b n:Int}(e0:(op == 20)=false)(e1:(op == 21)=false)(e2:(op == 22)=false)(e3:(op == 23)=false)(e4:(op == 24)=false)(e5:(op == 25)=false)(h:¬(1≤op∧op≤10)):qh op d a b n=.nilIface:=by
 simp only[beq_eq_false_iff_ne,ne_eq] at e0 e1 e2 e3 e4 e5;simp only[qh,e0,e1,e2,e3,e4,e5,h,if_false]
theorem JB (op d a b n:Int)(w:World) :
  Calls Tryz.prog 82 #[.agg #[vi op,vi d,vi a,vi b,vi n]] w fun e w'=>e=.returned (vi (jX op d))∧Below w.heap.size w w':=by
 rcases Jz op with h | h | h | h | h | h | ⟨⟨e0,e1,e2,e3,e4,e5⟩,⟨h,h1⟩ | h | ⟨h1,h⟩⟩
 all_goals
  go_enter Tryz.func82,Tryz.ntmps82
  go_wp2;go_ret;exact⟨by first | (simp[jX,kD,h];done) | (rw[ac1 h h1];rfl) | (rw[ac2 e0 e1 e2 e3 e4 e5 (by omega)];rfl),by repeat (first | exact Below.refl _ _ | apply Below.drew | refine Below.alloc ?_ (by simp <;> omega) _ | refine Below.setCell ?_ (by simp <;> omega) _)⟩
theorem qf (op d a b n:Int)(w:World) :
  Calls Tryz.prog 52 #[.agg #[vi op,vi d,vi a,vi b,vi n]] w fun e w'=>e=.returned (qh op d a b n)∧Below w.heap.size w w':=by
 rcases Jz op with h | h | h | h | h | h | ⟨⟨e0,e1,e2,e3,e4,e5⟩,⟨h,h1⟩ | h | ⟨h1,h⟩⟩
 all_goals
  go_enter Tryz.func52,Tryz.ntmps52
  go_wp2;go_ret;exact⟨by first | (simp[qh,h];done) | (rw[yu e0 e1 e2 e3 e4 e5 h h1];rfl) | (rw[JA e0 e1 e2 e3 e4 e5 (by omega)];rfl),by repeat (first | exact Below.refl _ _ | apply Below.drew | refine Below.alloc ?_ (by simp <;> omega) _ | refine Below.setCell ?_ (by simp <;> omega) _)⟩
theorem yw {P:Program}{t x:TypeId}{fs:Array Field}(hu:P.underlying t=some (.struct fs))(v:Value)(w:World):(Instr.typeAssert (.iface t v) x t true).run P w=.ok (.tuple #[v,.bool true]) w:=by
 simp[Instr.typeAssert,run_underlying hu]
theorem zg {P:Program}{t x:TypeId}{fs:Array Field}{z:Value}(hu:P.underlying t=some (.struct fs))(hz:(P.info? t).map (fun i=>i.zero)=some (some z))(t':TypeId)(v:Value)(w:World)(hne:t'≠t):(Instr.typeAssert (.iface t' v) x t true).run P w=.ok (.tuple #[z,.bool false]) w:=by
 obtain⟨j,hj,hz'⟩:=Option.map_eq_some_iff.1 hz;simp[Instr.typeAssert,run_underlying hu,hne,zeroValue,typeInfo,hj,hz']
theorem yx {P:Program}{t x:TypeId}{fs:Array Field}{z:Value}(hu:P.underlying t=some (.struct fs))(hz:(P.info? t).map (fun i=>i.zero)=some (some z))(w:World):(Instr.typeAssert .nilIface x t true).run P w=.ok (.tuple #[z,.bool false]) w:=by
 obtain⟨j,hj,hz'⟩:=Option.map_eq_some_iff.1 hz;simp[Instr.typeAssert,run_underlying hu,zeroValue,typeInfo,hj,hz']
theorem QS (v:Value)(w:World):(Instr.typeAssert (.iface 113 v) 81 113 true).run Tryz.prog w=.ok (.tuple #[v,.bool true]) w:=yw Tryz.underlying113 v w
theorem Yf (t:TypeId)(v:Value)(w:World)(h:t≠113):(Instr.typeAssert (.iface t v) 81 113 true).run Tryz.prog w=.ok (.tuple #[.agg #[vi 0,vi 0,vi 0,vi 0],.bool false]) w:=zg Tryz.underlying113 (by kernel_rfl) t v w h
theorem QT (w:World):(Instr.typeAssert .nilIface 81 113 true).run Tryz.prog w=.ok (.tuple #[.agg #[vi 0,vi 0,vi 0,vi 0],.bool false]) w:=yx Tryz.underlying113 (by kernel_rfl) w
theorem aaN (v:Value)(w:World):(Instr.typeAssert (.iface 122 v) 81 122 true).run Tryz.prog w=.ok (.tuple #[v,.bool true]) w:=yw Tryz.underlying122 v w
theorem abR (t:TypeId)(v:Value)(w:World)(h:t≠122):(Instr.typeAssert (.iface t v) 81 122 true).run Tryz.prog w=.ok (.tuple #[.agg #[vi 0,vi 0],.bool false]) w:=zg Tryz.underlying122 (by kernel_rfl) t v w h
theorem aaO (w:World):(Instr.typeAssert .nilIface 81 122 true).run Tryz.prog w=.ok (.tuple #[.agg #[vi 0,vi 0],.bool false]) w:=yx Tryz.underlying122 (by kernel_rfl) w
theorem QU (v:Value)(w:World):(Instr.typeAssert (.iface 115 v) 81 115 true).run Tryz.prog w=.ok (.tuple #[v,.bool true]) w:=yw Tryz.underlying115 v w
theorem Yg (t:TypeId)(v:Value)(w:World)(h:t≠115):(Instr.typeAssert (.iface t v) 81 115 true).run Tryz.prog w=.ok (.tuple #[.agg #[vi 0,vi 0],.bool false]) w:=zg Tryz.underlying115 (by kernel_rfl) t v w h
theorem QV (w:World):(Instr.typeAssert .nilIface 81 115 true).run Tryz.prog w=.ok (.tuple #[.agg #[vi 0,vi 0],.bool false]) w:=yx Tryz.underlying115 (by kernel_rfl) w
theorem aaP (v:Value)(w:World):(Instr.typeAssert (.iface 117 v) 81 117 true).run Tryz.prog w=.ok (.tuple #[v,.bool true]) w:=yw Tryz.underlying117 v w
theorem abS (t:TypeId)(v:Value)(w:World)(h:t≠117):(Instr.typeAssert (.iface t v) 81 117 true).run Tryz.prog w=.ok (.tuple #[.agg #[vi 0,vi 0],.bool false]) w:=zg Tryz.underlying117 (by kernel_rfl) t v w h
theorem aaQ (w:World):(Instr.typeAssert .nilIface 81 117 true).run Tryz.prog w=.ok (.tuple #[.agg #[vi 0,vi 0],.bool false]) w:=yx Tryz.underlying117 (by kernel_rfl) w
theorem ac3 (v:Value)(w:World):(Instr.typeAssert (.iface 119 v) 81 119 true).run Tryz.prog w=.ok (.tuple #[v,.bool true]) w:=yw Tryz.underlying119 v w
theorem adQ (t:TypeId)(v:Value)(w:World)(h:t≠119):(Instr.typeAssert (.iface t v) 81 119 true).run Tryz.prog w=.ok (.tuple #[.agg #[vi 0],.bool false]) w:=zg Tryz.underlying119 (by kernel_rfl) t v w h
theorem ac4 (w:World):(Instr.typeAssert .nilIface 81 119 true).run Tryz.prog w=.ok (.tuple #[.agg #[vi 0],.bool false]) w:=yx Tryz.underlying119 (by kernel_rfl) w
theorem abT (v:Value)(w:World):(Instr.typeAssert (.iface 124 v) 81 124 true).run Tryz.prog w=.ok (.tuple #[v,.bool true]) w:=yw Tryz.underlying124 v w
theorem ac5 (t:TypeId)(v:Value)(w:World)(h:t≠124):(Instr.typeAssert (.iface t v) 81 124 true).run Tryz.prog w=.ok (.tuple #[.agg #[vi 0],.bool false]) w:=zg Tryz.underlying124 (by kernel_rfl) t v w h
theorem abU (w:World):(Instr.typeAssert .nilIface 81 124 true).run Tryz.prog w=.ok (.tuple #[.agg #[vi 0],.bool false]) w:=yx Tryz.underlying124 (by kernel_rfl) w
theorem QW (v:Value)(w:World):(Instr.typeAssert (.iface 120 v) 81 120 true).run Tryz.prog w=.ok (.tuple #[v,.bool true]) w:=yw Tryz.underlying120 v w
theorem Yh (t:TypeId)(v:Value)(w:World)(h:t≠120):(Instr.typeAssert (.iface t v) 81 120 true).run Tryz.prog w=.ok (.tuple #[.agg #[vi 0,vi 0],.bool false]) w:=zg Tryz.underlying120 (by kernel_rfl) t v w h
theorem QX (w:World):(Instr.typeAssert .nilIface 81 120 true).run Tryz.prog w=.ok (.tuple #[.agg #[vi 0,vi 0],.bool false]) w:=yx Tryz.underlying120 (by kernel_rfl) w
theorem qs (op d a b n:Int)(w:World) :
  Calls Tryz.prog 53 #[qh op d a b n] w fun e w'=>e=.returned (.tuple #[vi (XM op d),.bool (kD op)])∧Below w.heap.size w w':=by
 rcases Jz op with h | h | h | h | h | h | ⟨⟨e0,e1,e2,e3,e4,e5⟩,⟨h,h1⟩ | h | ⟨h1,h⟩⟩
 all_goals
  first | (subst h;simp only[qh,if_true,if_false,Int.reduceEq]) | (rw[yu e0 e1 e2 e3 e4 e5 h h1]) | (rw[JA e0 e1 e2 e3 e4 e5 (by omega)])
  have y0:=QS;have n0:=Yf;have z0:=QT;have y1:=aaN;have n1:=abR;have z1:=aaO;have y2:=QU;have n2:=Yg;have z2:=QV;have y3:=abT;have n3:=ac5;have z3:=abU;have y4:=QW;have n4:=Yh;have z4:=QX;go_enter Tryz.func53,Tryz.ntmps53
  go_wp2
  go_ret2
  exact⟨by first | (simp[XM,kD];done) | (rw[XM,Ql h h1];rfl) | (rw[XM,ZB e0 e1 e2 e3 e4 e5 (by omega)];rfl),by repeat (first | exact Below.refl _ _ | apply Below.drew | refine Below.alloc ?_ (by simp <;> omega) _ | refine Below.setCell ?_ (by simp <;> omega) _)⟩
theorem adR (op d a b n:Int)(w:World) :
  Calls Tryz.prog 24 #[.agg #[vi op,vi d,vi a,vi b,vi n]] w fun e w'=>e=.returned (vi (jX op d))∧Below w.heap.size w w':=by
 go_enter Tryz.func24,Tryz.ntmps24
 go_wp2_with fail
 refine(qf op d a b n _).mono ?_;rintro e w1 ⟨rfl,b1⟩;go_wp2_with fail
 refine(qs op d a b n _).mono ?_;rintro e w2 ⟨rfl,b2⟩;have b0:Below w.heap.size w (w.alloc (.cells #[vi op,vi d,vi a,vi b,vi n] 47)):=by repeat (first | exact Below.refl _ _ | apply Below.drew | refine Below.alloc ?_ (by simp <;> omega) _ | refine Below.setCell ?_ (by simp <;> omega) _)
 have b3:=Bel.after (Bel.after b0 b1) b2;clear b0 b1 b2;cases hm:kD op
 ·go_wp2;go_ret;exact⟨by simp[jX,XM,hm],b3⟩
 ·go_wp2;go_ret;exact⟨by simp[jX,XM,hm],b3⟩
structure jy where
 fr:Int
 v:Int
structure yy where
 d:Int
 arms:List jy
structure kS where
 op:Int
 d:Int
 a:Int
 b:Int
 n:Int
structure QY where
 k:Int
 a:Int
 t:Int
 e:Int
structure jc where
 phis:List yy
 list:List kS
 term:QY
structure FnD where
 blocks:List jc
 values:Int
def kM (lo:Nat)(w w':World):Prop := ∀p v,lo≤p.block→w.cell? p=some v→w'.cell? p=some v
theorem kM.jK {w w':World}(h:Below w.heap.size w w')(lo:Nat):kM lo w w':=fun p v _ hc=>Bel.keeps h hc
theorem kM.trans {lo:Nat}{a b c:World}(h:kM lo a b)(k:kM lo b c):kM lo a c:=fun p v hp hc=>k p v hp (h p v hp hc)
theorem kM.setCell (w:World)(lo B o:Nat)(u:Value)(h:B<lo):kM lo w (w.setCell (Z B o) u):=fun p v hp hc=>by
 rw[World.cell?_setCell_other _ _ _ _ (by intro e;rw[←e] at hp;exact absurd hp (by show ¬lo≤B;omega))];exact hc
def jz {α:Type}(lo k:Nat)(E:World→Nat→Nat→α→Prop)(w:World)(v:Value)(l:List α):Prop :=
 ∃(a:Option Addr) (cap:Nat),v=.slice a l.length cap∧l.length≤9223372036854775807∧(0<l.length→∃b off,a=some (Z b off)∧lo≤b∧∀i x,l[i]?=some x→E w b (off+i*k) x)
theorem jz.keep {α:Type}{lo k:Nat}{E:World→Nat→Nat→α→Prop}{w w':World}{v:Value}{l:List α}(h:jz lo k E w v l)(hE:∀b o x,lo≤b→E w b o x→E w' b o x):jz lo k E w' v l:=by
 obtain⟨a,cap,rfl,hm,hc⟩:=h;refine⟨a,cap,rfl,hm,fun hp=>?_⟩;obtain⟨b,off,rfl,hb,hd⟩:=hc hp;exact⟨b,off,rfl,hb,fun i x hi=>hE _ _ _ hb (hd i x hi)⟩
theorem jz.low {α:Type}{lo lo' k:Nat}{E E':World→Nat→Nat→α→Prop}{w:World}{v:Value}{l:List α}(h:jz lo k E w v l)(hl:lo'≤lo)(hE:∀b o x,E w b o x→E' w b o x):jz lo' k E' w v l:=by
 obtain⟨a,cap,rfl,hm,hc⟩:=h;refine⟨a,cap,rfl,hm,fun hp=>?_⟩;obtain⟨b,off,rfl,hb,hd⟩:=hc hp;exact⟨b,off,rfl,Nat.le_trans hl hb,fun i x hi=>hE _ _ _ (hd i x hi)⟩
def qq (w:World)(b o:Nat)(x:jy):Prop:=w.cell? (Z b o)=some (vi x.fr)∧w.cell? (Z b (o+1))=some (vi x.v)
def jU (w:World)(b o:Nat)(x:kS):Prop :=
 w.cell? (Z b o)=some (vi x.op)∧w.cell? (Z b (o+1))=some (vi x.d)∧w.cell? (Z b (o+2))=some (vi x.a)∧w.cell? (Z b (o+3))=some (vi x.b)∧w.cell? (Z b (o+4))=some (vi x.n)
def yz (lo:Nat)(w:World)(b o:Nat)(x:yy):Prop :=
 w.cell? (Z b o)=some (vi x.d)∧∃v,w.cell? (Z b (o+1))=some v∧jz lo 2 qq w v x.arms
def qH (lo:Nat)(w:World)(b o:Nat)(x:jc):Prop :=
 ∃pv lv,w.cell? (Z b o)=some pv∧w.cell? (Z b (o+1))=some lv∧w.cell? (Z b (o+2))=some (vi x.term.k)∧w.cell? (Z b (o+3))=some (vi x.term.a)∧w.cell? (Z b (o+4))=some (vi x.term.t)∧w.cell? (Z b (o+5))=some (vi x.term.e) ∧
  jz lo 2 (yz lo) w pv x.phis∧jz lo 5 jU w lv x.list
def qt (lo:Nat)(w:World)(v:Value)(F:FnD):Prop := ∃bv,v=.agg #[bv,vi F.values]∧jz lo 6 (qH lo) w bv F.blocks
def kJ (w:World)(v:Value)(F:FnD):Prop:=qt 0 w v F
theorem qq.keep {lo:Nat}{w w':World}{b o:Nat}{x:jy}(h:qq w b o x)(hk:kM lo w w')(hb:lo≤b):qq w' b o x:=⟨hk _ _ hb h.1,hk _ _ hb h.2⟩
theorem jU.keep {lo:Nat}{w w':World}{b o:Nat}{x:kS}(h:jU w b o x)(hk:kM lo w w')(hb:lo≤b):jU w' b o x :=
 ⟨hk _ _ hb h.1,hk _ _ hb h.2.1,hk _ _ hb h.2.2.1,hk _ _ hb h.2.2.2.1,hk _ _ hb h.2.2.2.2⟩
theorem ZC {lo:Nat}{w w':World}{v:Value}{l:List jy}(h:jz lo 2 qq w v l)(hk:kM lo w w'):jz lo 2 qq w' v l:=h.keep fun _ _ _ hb hx=>hx.keep hk hb
theorem kN {lo:Nat}{w w':World}{v:Value}{l:List kS}(h:jz lo 5 jU w v l)(hk:kM lo w w'):jz lo 5 jU w' v l:=h.keep fun _ _ _ hb hx=>hx.keep hk hb
theorem yz.keep {lo:Nat}{w w':World}{b o:Nat}{x:yy}(h:yz lo w b o x)(hk:kM lo w w')(hb:lo≤b):yz lo w' b o x:=by
 obtain⟨h1,v,h2,h3⟩:=h;exact⟨hk _ _ hb h1,v,hk _ _ hb h2,ZC h3 hk⟩
theorem ZD {lo:Nat}{w w':World}{v:Value}{l:List yy}(h:jz lo 2 (yz lo) w v l)(hk:kM lo w w'):jz lo 2 (yz lo) w' v l:=h.keep fun _ _ _ hb hx=>hx.keep hk hb
theorem qH.keep {lo:Nat}{w w':World}{b o:Nat}{x:jc}(h:qH lo w b o x)(hk:kM lo w w')(hb:lo≤b):qH lo w' b o x:=by
 obtain⟨pv,lv,h1,h2,h3,h4,h5,h6,h7,h8⟩:=h;exact⟨pv,lv,hk _ _ hb h1,hk _ _ hb h2,hk _ _ hb h3,hk _ _ hb h4,hk _ _ hb h5,hk _ _ hb h6,ZD h7 hk,kN h8 hk⟩
theorem adS {lo:Nat}{w w':World}{v:Value}{l:List jc}(h:jz lo 6 (qH lo) w v l)(hk:kM lo w w'):jz lo 6 (qH lo) w' v l:=h.keep fun _ _ _ hb hx=>hx.keep hk hb
theorem qt.keep {lo:Nat}{w w':World}{v:Value}{F:FnD}(h:qt lo w v F)(hk:kM lo w w'):qt lo w' v F:=by
 obtain⟨bv,hv,hb⟩:=h;exact⟨bv,hv,adS hb hk⟩
theorem kJ.later {w w':World}{v:Value}{F:FnD}(h:kJ w v F)(hb:Below w.heap.size w w'):kJ w' v F:=qt.keep h (kM.jK hb 0)
theorem yz.low {lo lo':Nat}(hl:lo'≤lo){w:World}{b o:Nat}{x:yy}(h:yz lo w b o x):yz lo' w b o x:=by
 obtain⟨h1,v,h2,h3⟩:=h;exact⟨h1,v,h2,h3.low hl fun _ _ _ hx=>hx⟩
theorem qH.low {lo lo':Nat}(hl:lo'≤lo){w:World}{b o:Nat}{x:jc}(h:qH lo w b o x):qH lo' w b o x:=by
 obtain⟨pv,lv,h1,h2,h3,h4,h5,h6,h7,h8⟩:=h;exact⟨pv,lv,h1,h2,h3,h4,h5,h6,h7.low hl fun _ _ _ hx=>hx.low hl,h8.low hl fun _ _ _ hx=>hx⟩
theorem qt.low {lo lo':Nat}(hl:lo'≤lo){w:World}{v:Value}{F:FnD}(h:qt lo w v F):qt lo' w v F:=by
 obtain⟨bv,hv,hb⟩:=h;exact⟨bv,hv,hb.low hl fun _ _ _ hx=>hx.low hl⟩
theorem XN {α:Type}{n:Nat}{Q:Nat→α→Prop}(h:∀i,i<n→∃x,Q i x):∃l:List α,l.length=n∧∀i x,l[i]?=some x→Q i x:=by
 induction n with
 | zero=>exact⟨[],rfl,fun i x hi=>by simp at hi⟩
 | succ n ih=>
  obtain⟨l,hl,hq⟩:=ih (fun i hi=>h i (by omega));obtain⟨x,hx⟩:=h n (by omega);refine⟨l ++ [x],by simp[hl],fun i y hi=>?_⟩;by_cases B:i<n
  ·rw[List.getElem?_append_left (by omega)] at hi;exact hq i y hi
  ·have r:i<(l ++ [x]).length:=by
    by_cases t:i<(l ++ [x]).length
    ·exact t
    ·rw[List.getElem?_eq_none (by omega)] at hi;cases hi
   have e:i=n:=by simp[hl] at r;omega
   subst e;rw[List.getElem?_append_right (by omega)] at hi;simp[hl] at hi;subst hi;exact hx
section
variable {H:Type} {enc:TypeId × Value→H} {w:World} {base:Nat} {spare:Nat→Bool} {held:Bool}
end
def jV (w:World)(v:Value)(l:List Int):Prop :=
 ∃(a:Option Addr) (cap:Nat),v=.slice a l.length cap∧l.length≤9223372036854775807∧(0<l.length→∃b off,a=some (Z b off)∧∀i,i<l.length→w.cell? (Z b (off+i))=some (vi (l.getD i 0)))
theorem jV.keep {w w':World}{v:Value}{l:List Int}(h:jV w v l)(hb:Below w.heap.size w w'):jV w' v l:=by
 obtain⟨a,cap,rfl,hm,hc⟩:=h;refine⟨a,cap,rfl,hm,fun hp=>?_⟩;obtain⟨b,off,rfl,hd⟩:=hc hp;exact⟨b,off,rfl,fun i hi=>Bel.keeps hb (hd i hi)⟩
theorem ZE {l:List Int}{k:Nat}(hl:k<l.length):l.take (k+1)=l.take k ++ [l.getD k 0]:=by
 rw[List.take_add_one];simp[hl]
theorem aiF {l m:List Int}{k:Nat}(hl:k<l.length)(hm:k<m.length)(h:l.take k=m.take k)(e:l.getD k 0=m.getD k 0):l.take (k+1)=m.take (k+1):=by
 rw[ZE hl,ZE hm,h,e]
theorem air {l m:List Int}{k:Nat}(e:¬l.getD k 0=m.getD k 0):decide (l=m)=false:=by
 simp only[decide_eq_false_iff_not];rintro rfl;exact e rfl
theorem aiL {l m:List Int}{k:Nat}(hl:l.length=k)(hm:m.length=k)(h:l.take k=m.take k):decide (l=m)=true:=by
 simp only[decide_eq_true_eq];rw[List.take_of_length_le (by omega),List.take_of_length_le (by omega)] at h;exact h
theorem ais (va vb:Value)(l m:List Int)(w:World)(ha:jV w va l)(hb:jV w vb m) :
  Calls Tryz.prog 15 #[va,vb] w fun e w'=>e=.returned (.bool (decide (l=m)))∧Below w.heap.size w w':=by
 obtain⟨aa,ca,rfl,hma,hca⟩:=ha;obtain⟨ab,cb,rfl,hmb,hcb⟩:=hb;obtain⟨n,HN⟩:∃n,Hid (l.length=n):=⟨_,rfl⟩;obtain⟨n',HN'⟩:∃n,Hid (m.length=n):=⟨_,rfl⟩;rw[HN.out] at hma hca ⊢;rw[HN'.out] at hmb hcb ⊢;have HA:Hid (0<n→∃b off,aa=some (Z b off)∧∀i,i<n→w.cell? (Z b (off+i))=some (vi (l.getD i 0))):=hca;have HB:Hid (0<n'→∃b off,ab=some (Z b off)∧∀i,i<n'→w.cell? (Z b (off+i))=some (vi (m.getD i 0))):=hcb;clear hca hcb;by_cases hlen:n=n'
 ·have HL:Hid (n=n'):=hlen;have G:((n:Int) != (n':Int))=false:=by simp[hlen]
  clear hlen;go_enter Tryz.func15,Tryz.ntmps15
  go_wp2;go_loopw [5] (fun i wr=>∃k:Nat,k≤n∧i=vi k∧l.take k=m.take k∧Below w.heap.size w wr) (fun i _=>n-(intOf i).toNat)
  case atStart=>exact⟨0,Nat.zero_le _,rfl,by simp,Below.refl _ _⟩
  case round=>
   obtain⟨k,hk,rfl,htk,hb3⟩:=hrel;have HT:Hid (l.take k=m.take k):=htk;have h:Hid (Below w.heap.size w wr):=hb3;clear htk hb3;by_cases H:(k:Int)<(n:Int)
   ·obtain⟨b,off,rfl,hc1⟩:=HA.out (by omega);obtain⟨b',off',rfl,hc2⟩:=HB.out (by have:=HL.out;omega);obtain⟨x,HX⟩:∃x,Hid (l.getD k 0=x):=⟨_,rfl⟩;obtain⟨y,HY⟩:∃y,Hid (m.getD k 0=y):=⟨_,rfl⟩;have q1:=Bel.keeps h.out (hc1 k (by omega));have q2:=Bel.keeps h.out (hc2 k (by have:=HL.out;omega));rw[HX.out] at q1;rw[HY.out] at q2;have B:k<n':=by have:=HL.out;omega
    clear hc1 hc2;by_cases he:x=y
    ·have r:(x != y)=false:=by simp[he]
     have HE:Hid (x=y):=he;clear he;go_wp2
     go_quiet (fail)
     go_wp2;go_roundw
     case rel=>exact⟨k+1,by omega,by go_num,aiF (by have:=HN.out;omega) (by have:=HN'.out;omega) HT.out (by rw[HX.out,HY.out];exact HE.out),h.out.trans ⟨rfl,rfl,rfl,Nat.le_refl _,fun _ _=>rfl⟩⟩
     case measure=>simp[intOf];omega
    ·have r:(x != y)=true:=by simpa using he
     have HE:Hid (¬x=y):=he;clear he;go_wp2
     go_quiet (fail)
     go_wp2;go_ret;exact⟨by rw[air (k:=k) (l:=l) (m:=m) (by rw[HX.out,HY.out];exact HE.out)];rfl,h.out.trans ⟨rfl,rfl,rfl,Nat.le_refl _,fun _ _=>rfl⟩⟩
   ·have t:k=n:=by omega
    have hd:decide (l=m)=true:=aiL (k:=k) (by have:=HN.out;omega) (by have:=HN'.out;have:=HL.out;omega) HT.out;have HD:Hid (decide (l=m)=true):=hd;clear t hd;go_wp2;go_ret;exact⟨by rw[HD.out];rfl,h.out⟩
 ·have hd:decide (l=m)=false:=by
   simp only[decide_eq_false_iff_not];rintro rfl;exact hlen (HN.out.symm.trans HN'.out)
  rw[hd];have G:((n:Int) != (n':Int))=true:=by simp;omega
  clear hlen hd;go_enter Tryz.func15,Tryz.ntmps15
  go_wp2;go_ret;exact⟨rfl,Below.refl _ _⟩
def yI (w:World)(b:Nat)(v:Value)(l:List Int):Prop :=
 v=sq b 0 l.length l.length∧l.length≤9223372036854775807∧b<w.heap.size∧(∀i,i<l.length→w.cell? (Z b i)=some (vi (l.getD i 0)))∧∀i,i<l.length→w.frozen? (Z b i)=false
theorem yI.at {w:World}{b:Nat}{v:Value}{l:List Int}(h:yI w b v l):jV w v l:=by
 obtain⟨rfl,hm,hb,hc,hf⟩:=h;exact⟨_,_,rfl,hm,fun _=>⟨b,0,rfl,fun i hi=>by simpa using hc i hi⟩⟩
theorem yI.keep {w w':World}{b:Nat}{v:Value}{l:List Int}(h:yI w b v l)(hb:Below w.heap.size w w'):yI w' b v l:=by
 obtain⟨rfl,hm,hlt,hc,hf⟩:=h;refine⟨rfl,hm,Nat.lt_of_lt_of_le hlt hb.size,fun i hi=>Bel.keeps hb (hc i hi),fun i hi=>?_⟩;rw[hb.frozen (p:=(Z b i)) hlt];exact hf i hi
structure FrB (p:Nat)(w w':World):Prop where
 os:w'.os=w.os
 tape:w'.tape=w.tape
 output:w'.output=w.output
 size:w.heap.size≤w'.heap.size
 block:∀k,k<w.heap.size→k≠p→w'.heap[k]?=w.heap[k]?
theorem FrB.refl (p:Nat)(w:World):FrB p w w:=⟨rfl,rfl,rfl,Nat.le_refl _,fun _ _ _=>rfl⟩
theorem FrB.trans {p:Nat}{a b c:World}(h:FrB p a b)(k:FrB p b c):FrB p a c :=
 ⟨k.os.trans h.os,k.tape.trans h.tape,k.output.trans h.output,Nat.le_trans h.size k.size,fun i hi hp=>(k.block i (Nat.lt_of_lt_of_le hi h.size) hp).trans (h.block i hi hp)⟩
theorem FrB.setCell {p:Nat}{a w:World}(h:FrB p a w)(o:Nat)(u:Value):FrB p a (w.setCell (Z p o) u) :=
 h.trans ⟨rfl,rfl,rfl,by simp[World.setCell],fun k _ hp=>Below.heap_setCell _ _ _ _ hp⟩
theorem FrB.below {p B:Nat}{a w:World}(h:FrB p a w)(hp:B≤p)(hB:B≤a.heap.size):Below B a w :=
 ⟨h.os,h.tape,h.output,h.size,fun k hk=>h.block k (by omega) (by omega)⟩
theorem abV (w:World)(t:TypeId)(B:Nat)(hB:B=w.heap.size):yI (w.alloc (.cells #[] t)) B (sq B 0 0 0) []:=by
 subst hB;exact⟨rfl,by simp,by simp,fun i hi=>absurd hi (by simp),fun i hi=>absurd hi (by simp)⟩
theorem XO (w:World)(t:TypeId)(a:Int)(B:Nat)(hB:B=w.heap.size):yI (w.alloc (.cells #[vi a] t)) B (sq B 0 1 1) [a]:=by
 subst hB;refine⟨rfl,by simp,by simp,fun i hi=>?_,fun i hi=>?_⟩;all_goals
  simp at hi;subst hi;simp
theorem ag5 (w:World)(t:TypeId)(a b:Int)(B:Nat)(hB:B=w.heap.size):yI (w.alloc (.cells #[vi a,vi b] t)) B (sq B 0 2 2) [a,b]:=by
 subst hB;refine⟨rfl,by simp,by simp,fun i hi=>?_,fun i hi=>?_⟩;all_goals
  have h:i=0∨i=1:=by simp at hi;omega
  rcases h with rfl|rfl
  ·simp
  ·simp
def qp (w:World)(l:List Int)(e:Ending)(w':World):Prop := ∃v k,e=.returned v∧w.heap.size≤k∧yI w' k v l∧Below w.heap.size w w'
def kK (op a b:Int):List Int:=if (1≤op∧op≤10)∨op=22 then [a,b] else if op=21∨op=23∨op=25 then [a] else []
theorem XP {op a b:Int}(h:1≤op)(h1:op≤10):kK op a b = [a,b]:=by simp[kK,h,h1]
theorem abi {op a b:Int}(e0:(op == 20)=false)(e1:(op == 21)=false)(e2:(op == 22)=false)(e3:(op == 23)=false)(e4:(op == 24)=false)(e5:(op == 25)=false)(h:¬(1≤op∧op≤10)):kK op a b = []:=by
 simp only[beq_eq_false_iff_ne,ne_eq] at e0 e1 e2 e3 e4 e5;simp only[kK,e1,e2,e3,e5,h,or_self,if_false]
theorem Ki (op d a b n:Int)(w:World) :
  Calls Tryz.prog 98 #[.agg #[vi op,vi d,vi a,vi b,vi n]] w fun e w'=>qp w (kK op a b) e w':=by
 rcases Jz op with h | h | h | h | h | h | ⟨⟨e0,e1,e2,e3,e4,e5⟩,⟨h,h1⟩ | h | ⟨h1,h⟩⟩
 all_goals
  first | (have hu:kK op a b = [a,b]:=by first | exact XP h h1 | (simp[kK,h];done)) | (have hu:kK op a b = [a]:=by simp[kK,h];done) | (have hu:kK op a b = []:=by first | (simp[kK,h];done) | exact abi e0 e1 e2 e3 e4 e5 (by omega))
  rw[hu];clear hu;go_enter Tryz.func98,Tryz.ntmps98
  go_wp2;go_ret
  first | exact⟨_,_,rfl,by simp,ag5 _ _ _ _ _ (by simp),by repeat (first | exact Below.refl _ _ | apply Below.drew | refine Below.alloc ?_ (by simp <;> omega) _ | refine Below.setCell ?_ (by simp <;> omega) _)⟩ | exact⟨_,_,rfl,by simp,XO _ _ _ _ (by simp),by repeat (first | exact Below.refl _ _ | apply Below.drew | refine Below.alloc ?_ (by simp <;> omega) _ | refine Below.setCell ?_ (by simp <;> omega) _)⟩ | exact⟨_,_,rfl,by simp,abV _ _ _ (by simp),by repeat (first | exact Below.refl _ _ | apply Below.drew | refine Below.alloc ?_ (by simp <;> omega) _ | refine Below.setCell ?_ (by simp <;> omega) _)⟩
theorem qb (op d a b n:Int)(w:World) :
  Calls Tryz.prog 51 #[qh op d a b n] w fun e w'=>qp w (kK op a b) e w':=by
 rcases Jz op with h | h | h | h | h | h | ⟨⟨e0,e1,e2,e3,e4,e5⟩,⟨h,h1⟩ | h | ⟨h1,h⟩⟩
 all_goals
  first | (have hu:kK op a b = [a,b]:=by first | exact XP h h1 | (simp[kK,h];done)) | (have hu:kK op a b = [a]:=by simp[kK,h];done) | (have hu:kK op a b = []:=by first | (simp[kK,h];done) | exact abi e0 e1 e2 e3 e4 e5 (by omega))
  rw[hu];clear hu
  first | (subst h;simp only[qh,if_true,if_false,Int.reduceEq]) | (rw[yu e0 e1 e2 e3 e4 e5 h h1]) | (rw[JA e0 e1 e2 e3 e4 e5 (by omega)])
  have y0:=QS;have n0:=Yf;have z0:=QT;have y1:=QU;have n1:=Yg;have z1:=QV;have y2:=aaP;have n2:=abS;have z2:=aaQ;have y3:=ac3;have n3:=adQ;have z3:=ac4;have y4:=QW;have n4:=Yh;have z4:=QX;go_enter Tryz.func51,Tryz.ntmps51
  go_wp2;go_ret
  first | exact⟨_,_,rfl,by simp,ag5 _ _ _ _ _ (by simp),by repeat (first | exact Below.refl _ _ | apply Below.drew | refine Below.alloc ?_ (by simp <;> omega) _ | refine Below.setCell ?_ (by simp <;> omega) _)⟩ | exact⟨_,_,rfl,by simp,XO _ _ _ _ (by simp),by repeat (first | exact Below.refl _ _ | apply Below.drew | refine Below.alloc ?_ (by simp <;> omega) _ | refine Below.setCell ?_ (by simp <;> omega) _)⟩ | exact⟨_,_,rfl,by simp,abV _ _ _ (by simp),by repeat (first | exact Below.refl _ _ | apply Below.drew | refine Below.alloc ?_ (by simp <;> omega) _ | refine Below.setCell ?_ (by simp <;> omega) _)⟩
theorem ac6 (op d a b n:Int)(w:World) :
  Calls Tryz.prog 23 #[.agg #[vi op,vi d,vi a,vi b,vi n]] w fun e w'=>qp w (kK op a b) e w':=by
 go_enter Tryz.func23,Tryz.ntmps23
 go_wp2_with fail
 refine(qf op d a b n _).mono ?_;rintro e w1 ⟨rfl,b1⟩;have b2:=Bel.after (Bel.alloc w _) b1;clear b1;go_wp2_with fail
 refine(qb op d a b n _).mono ?_;rintro e w2 ⟨v,k,rfl,hk,hr,b3⟩;have HR:Hid (yI w2 k v (kK op a b)):=hr;clear hr;go_wp2;go_ret;exact⟨_,_,rfl,Nat.le_trans b2.size hk,HR.out,Bel.after b2 b3⟩
def kT (k a:Int):List Int:=if k=2∨k=3 then [a] else []
theorem QZ (k a t e:Int)(w:World) :
  Calls Tryz.prog 97 #[.agg #[vi k,vi a,vi t,vi e]] w fun r w'=>qp w (kT k a) r w':=by
 by_cases h2:k=2
 ·rw[show kT k a = [a] by simp[kT,h2]];go_enter Tryz.func97,Tryz.ntmps97
  go_wp2;go_ret;exact⟨_,_,rfl,by simp,XO _ _ _ _ (by simp),by repeat (first | exact Below.refl _ _ | apply Below.drew | refine Below.alloc ?_ (by simp <;> omega) _ | refine Below.setCell ?_ (by simp <;> omega) _)⟩
 ·by_cases h3:k=3
  ·rw[show kT k a = [a] by simp[kT,h3]];go_enter Tryz.func97,Tryz.ntmps97
   go_wp2;go_ret;exact⟨_,_,rfl,by simp,XO _ _ _ _ (by simp),by repeat (first | exact Below.refl _ _ | apply Below.drew | refine Below.alloc ?_ (by simp <;> omega) _ | refine Below.setCell ?_ (by simp <;> omega) _)⟩
  ·rw[show kT k a = [] by simp[kT,h2,h3]];have e2:(k == 2)=false:=by simpa using h2
   have e3:(k == 3)=false:=by simpa using h3
   clear h2 h3;go_enter Tryz.func97,Tryz.ntmps97
   go_wp2;go_ret;exact⟨_,_,rfl,by simp,abV _ _ _ (by simp),by repeat (first | exact Below.refl _ _ | apply Below.drew | refine Below.alloc ?_ (by simp <;> omega) _ | refine Below.setCell ?_ (by simp <;> omega) _)⟩
theorem Q2 (k a t e:Int)(w:World) :
  Calls Tryz.prog 22 #[.agg #[vi k,vi a,vi t,vi e]] w fun r w'=>qp w (kT k a) r w':=by
 by_cases h2:k=2
 ·rw[show kT k a = [a] by simp[kT,h2]];go_enter Tryz.func22,Tryz.ntmps22
  go_wp2;go_ret;exact⟨_,_,rfl,by simp,XO _ _ _ _ (by simp),by repeat (first | exact Below.refl _ _ | apply Below.drew | refine Below.alloc ?_ (by simp <;> omega) _ | refine Below.setCell ?_ (by simp <;> omega) _)⟩
 ·by_cases h3:k=3
  ·rw[show kT k a = [a] by simp[kT,h3]];go_enter Tryz.func22,Tryz.ntmps22
   go_wp2;go_ret;exact⟨_,_,rfl,by simp,XO _ _ _ _ (by simp),by repeat (first | exact Below.refl _ _ | apply Below.drew | refine Below.alloc ?_ (by simp <;> omega) _ | refine Below.setCell ?_ (by simp <;> omega) _)⟩
  ·rw[show kT k a = [] by simp[kT,h2,h3]];have e2:(k == 2)=false:=by simpa using h2
   have e3:(k == 3)=false:=by simpa using h3
   clear h2 h3;go_enter Tryz.func22,Tryz.ntmps22
   go_wp2;go_ret;exact⟨_,_,rfl,by simp,abV _ _ _ (by simp),by repeat (first | exact Below.refl _ _ | apply Below.drew | refine Below.alloc ?_ (by simp <;> omega) _ | refine Below.setCell ?_ (by simp <;> omega) _)⟩
def abj (w:World)(B:Nat)(op d a b n:Int):Prop :=
 w.cell? (Z B 0)=some (vi op)∧w.cell? (Z B 1)=some (vi d)∧w.cell? (Z B 2)=some (vi a)∧w.cell? (Z B 3)=some (vi b)∧w.cell? (Z B 4)=some (vi n)
theorem abj.keep {w w':World}{B:Nat}{op d a b n:Int}(h:abj w B op d a b n)(hb:Below w.heap.size w w'):abj w' B op d a b n :=
 ⟨Bel.keeps hb h.1,Bel.keeps hb h.2.1,Bel.keeps hb h.2.2.1,Bel.keeps hb h.2.2.2.1,Bel.keeps hb h.2.2.2.2⟩
theorem afD (w:World)(t:TypeId)(op d a b n:Int):abj (w.alloc (.cells #[vi op,vi d,vi a,vi b,vi n] t)) w.heap.size op d a b n :=
 ⟨by simp,by simp,by simp,by simp,by simp⟩
end Go.Proofs.YtkbhbekfniadhaaGreat
