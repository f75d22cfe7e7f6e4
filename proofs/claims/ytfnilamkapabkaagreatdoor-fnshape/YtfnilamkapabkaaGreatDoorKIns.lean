/- The struct arguments of the laws, read as numbers. What a place makes and takes: the program's InsDef and the model's answer alike, for every place. Programs in memory: what a value of type Fn reads as, kept while the world only grows; the laws' own Fn, read. Lists of numbers in memory: compared, marked, held against the marks. What places and ends take: the program's InsUses and TermUses and the model's answer alike, each in new memory. -/
import Derived.Test.YtfnilamkapabkaaGreatDoorRows
import Derived.WalkKit
import Derived.ProofKit
import Derived.OpenShut
import Derived.Lib.SmallJoins
import Derived.Below
import Derived.Laws.ResultCell
import Derived.Deep.Slices
import Derived.Handy
import Derived.Deep.QuietTactic
import Derived.BigQuiet
namespace Go.Proofs.YtfnilamkapabkaaGreatDoor
open Go.ChangeShapes Go.WideShapes Go.ChangeAt Go.RowKit
set_option linter.unusedVariables false
theorem Bel.after {a b c:World}(h:Below a.heap.size a b)(k:Below b.heap.size b c):Below a.heap.size a c:=h.trans (k.mono h.size)
theorem Bel.alloc (w:World)(o:Obj):Below w.heap.size w (w.alloc o):=(Below.refl _ _).alloc (Nat.le_refl _) o
theorem box_cell {w w2:World}{o:Obj}(h:Below (w.alloc o).heap.size (w.alloc o) w2)(j:Nat):w2.cell? ⟨w.heap.size,j,none⟩=(w.alloc o).cell? ⟨w.heap.size,j,none⟩:=h.cell (by simp)
theorem Bel.keeps {w w':World}(h:Below w.heap.size w w'){p:Addr}{v:Value}(hc:w.cell? p=some v):w'.cell? p=some v:=by
 rw[h.cell (World.block_lt_of_cell? w _ hc)]
 exact hc
def wordOkV (op:Int):Bool:=decide (1≤op∧op≤10)
theorem wordOkV_yes {op:Int}(h1:1≤op)(h2:op≤10):wordOkV op=true:=by simp[wordOkV,h1,h2]
theorem wordOkV_lo {op:Int}(h1:¬1≤op):wordOkV op=false:=by simp[wordOkV,h1]
theorem wordOkV_hi {op:Int}(h1:¬op≤10):wordOkV op=false:=by simp[wordOkV,h1]
theorem spec_wordOk (op:Int)(w:World) :
  Calls Tryz.prog 72 #[.int .i64 op] w fun e w'=>e = .returned (.bool (wordOkV op))∧w'=w:=by
 by_cases h1:1≤op
 ·by_cases h2:op≤10
  ·rw[wordOkV_yes h1 h2]
   go_enter Tryz.func72,Tryz.ntmps72
   go_wp2
   go_ret
   exact⟨rfl,rfl⟩
  ·rw[wordOkV_hi h2]
   go_enter Tryz.func72,Tryz.ntmps72
   go_wp2
   go_ret
   exact⟨rfl,rfl⟩
 ·rw[wordOkV_lo h1]
  go_enter Tryz.func72,Tryz.ntmps72
  go_wp2
  go_ret
  exact⟨rfl,rfl⟩
theorem op_cases (op:Int):op=20∨op=21∨op=22∨op=23∨op=24∨op=25∨(((op == 20)=false∧(op == 21)=false∧(op == 22)=false∧(op == 23)=false∧(op == 24)=false∧(op == 25)=false)∧((1≤op∧op≤10)∨¬1≤op∨(1≤op∧¬op≤10))):=by
 simp only[beq_eq_false_iff_ne,ne_eq]
 omega
def makesV (op:Int):Bool:=decide ((1≤op∧op≤10)∨op=20∨op=21∨op=24∨op=25)
def madeV (op d:Int):Int:=if makesV op=true then d else 0
def placeV (op d a b n:Int):Value :=
 if op=20 then .iface 187 (.agg #[.int .i64 d,.int .i64 n])
 else if op=21 then .iface 180 (.agg #[.int .i64 d,.int .i64 a])
 else if op=22 then .iface 182 (.agg #[.int .i64 a,.int .i64 b])
 else if op=23 then .iface 184 (.agg #[.int .i64 a])
 else if op=24 then .iface 189 (.agg #[.int .i64 d])
 else if op=25 then .iface 185 (.agg #[.int .i64 d,.int .i64 a])
 else if 1≤op∧op≤10 then .iface 178 (.agg #[.int .i64 op,.int .i64 d,.int .i64 a,.int .i64 b])
 else .nilIface
theorem makesV_word {op:Int}(h:1≤op)(h1:op≤10):makesV op=true:=by simp[makesV,h,h1]
theorem makesV_none {op:Int}(e0:(op == 20)=false)(e1:(op == 21)=false)(e2:(op == 22)=false)(e3:(op == 23)=false)(e4:(op == 24)=false)(e5:(op == 25)=false)(h:¬(1≤op∧op≤10)):makesV op=false:=by
 simp only[beq_eq_false_iff_ne,ne_eq] at e0 e1 e2 e3 e4 e5
 simp only[makesV,decide_eq_false_iff_not]
 omega
theorem placeV_word {op d a b n:Int}(e0:(op == 20)=false)(e1:(op == 21)=false)(e2:(op == 22)=false)(e3:(op == 23)=false)(e4:(op == 24)=false)(e5:(op == 25)=false)(h:1≤op)(h1:op≤10):placeV op d a b n = .iface 178 (.agg #[.int .i64 op,.int .i64 d,.int .i64 a,.int .i64 b]):=by
 simp only[beq_eq_false_iff_ne,ne_eq] at e0 e1 e2 e3 e4 e5
 simp[placeV,e0,e1,e2,e3,e4,e5,h,h1]
theorem placeV_none {op d a b n:Int}(e0:(op == 20)=false)(e1:(op == 21)=false)(e2:(op == 22)=false)(e3:(op == 23)=false)(e4:(op == 24)=false)(e5:(op == 25)=false)(h:¬(1≤op∧op≤10)):placeV op d a b n = .nilIface:=by
 simp only[beq_eq_false_iff_ne,ne_eq] at e0 e1 e2 e3 e4 e5
 simp only[placeV,e0,e1,e2,e3,e4,e5,h,if_false]
set_option maxHeartbeats 1000000 in
theorem placeOf_any (op d a b n:Int)(w:World) :
  Calls Tryz.prog 63 #[.agg #[.int .i64 op,.int .i64 d,.int .i64 a,.int .i64 b,.int .i64 n]] w fun e w'=>e = .returned (placeV op d a b n)∧Below w.heap.size w w':=by
 rcases op_cases op with h | h | h | h | h | h | ⟨⟨e0,e1,e2,e3,e4,e5⟩,⟨h,h1⟩ | h | ⟨h1,h⟩⟩
 all_goals
  go_enter Tryz.func63,Tryz.ntmps63
  go_wp2
  go_ret
  exact⟨by first | (simp[placeV,h];done) | (rw[placeV_word e0 e1 e2 e3 e4 e5 h h1];rfl) | (rw[placeV_none e0 e1 e2 e3 e4 e5 (by omega)];rfl),by repeat (first | exact Below.refl _ _ | apply Below.drew | refine Below.alloc ?_ (by simp <;> omega) _ | refine Below.setCell ?_ (by simp <;> omega) _)⟩
theorem assert_yes {P:Program}{t x:TypeId}{fs:Array Field}(hu:P.underlying t=some (.struct fs))(v:Value)(w:World):(Instr.typeAssert (.iface t v) x t true).run P w = .ok (.tuple #[v,.bool true]) w:=by
 simp[Instr.typeAssert,run_underlying hu]
theorem assert_no {P:Program}{t x:TypeId}{fs:Array Field}{z:Value}(hu:P.underlying t=some (.struct fs))(hz:(P.info? t).map (fun i=>i.zero)=some (some z))(t':TypeId)(v:Value)(w:World)(hne:t'≠t):(Instr.typeAssert (.iface t' v) x t true).run P w = .ok (.tuple #[z,.bool false]) w:=by
 obtain⟨j,hj,hz'⟩:=Option.map_eq_some_iff.1 hz
 simp[Instr.typeAssert,run_underlying hu,hne,zeroValue,typeInfo,hj,hz']
theorem assert_nil {P:Program}{t x:TypeId}{fs:Array Field}{z:Value}(hu:P.underlying t=some (.struct fs))(hz:(P.info? t).map (fun i=>i.zero)=some (some z))(w:World):(Instr.typeAssert .nilIface x t true).run P w = .ok (.tuple #[z,.bool false]) w:=by
 obtain⟨j,hj,hz'⟩:=Option.map_eq_some_iff.1 hz
 simp[Instr.typeAssert,run_underlying hu,zeroValue,typeInfo,hj,hz']
theorem wordPlace_yes (v:Value)(w:World):(Instr.typeAssert (.iface 178 v) 114 178 true).run Tryz.prog w = .ok (.tuple #[v,.bool true]) w:=assert_yes Tryz.underlying178 v w
theorem wordPlace_no (t:TypeId)(v:Value)(w:World)(h:t≠178):(Instr.typeAssert (.iface t v) 114 178 true).run Tryz.prog w = .ok (.tuple #[.agg #[.int .i64 0,.int .i64 0,.int .i64 0,.int .i64 0],.bool false]) w:=assert_no Tryz.underlying178 (by kernel_rfl) t v w h
theorem wordPlace_nil (w:World):(Instr.typeAssert .nilIface 114 178 true).run Tryz.prog w = .ok (.tuple #[.agg #[.int .i64 0,.int .i64 0,.int .i64 0,.int .i64 0],.bool false]) w:=assert_nil Tryz.underlying178 (by kernel_rfl) w
theorem constPlace_yes (v:Value)(w:World):(Instr.typeAssert (.iface 187 v) 114 187 true).run Tryz.prog w = .ok (.tuple #[v,.bool true]) w:=assert_yes Tryz.underlying187 v w
theorem constPlace_no (t:TypeId)(v:Value)(w:World)(h:t≠187):(Instr.typeAssert (.iface t v) 114 187 true).run Tryz.prog w = .ok (.tuple #[.agg #[.int .i64 0,.int .i64 0],.bool false]) w:=assert_no Tryz.underlying187 (by kernel_rfl) t v w h
theorem constPlace_nil (w:World):(Instr.typeAssert .nilIface 114 187 true).run Tryz.prog w = .ok (.tuple #[.agg #[.int .i64 0,.int .i64 0],.bool false]) w:=assert_nil Tryz.underlying187 (by kernel_rfl) w
theorem loadPlace_yes (v:Value)(w:World):(Instr.typeAssert (.iface 180 v) 114 180 true).run Tryz.prog w = .ok (.tuple #[v,.bool true]) w:=assert_yes Tryz.underlying180 v w
theorem loadPlace_no (t:TypeId)(v:Value)(w:World)(h:t≠180):(Instr.typeAssert (.iface t v) 114 180 true).run Tryz.prog w = .ok (.tuple #[.agg #[.int .i64 0,.int .i64 0],.bool false]) w:=assert_no Tryz.underlying180 (by kernel_rfl) t v w h
theorem loadPlace_nil (w:World):(Instr.typeAssert .nilIface 114 180 true).run Tryz.prog w = .ok (.tuple #[.agg #[.int .i64 0,.int .i64 0],.bool false]) w:=assert_nil Tryz.underlying180 (by kernel_rfl) w
theorem storePlace_yes (v:Value)(w:World):(Instr.typeAssert (.iface 182 v) 114 182 true).run Tryz.prog w = .ok (.tuple #[v,.bool true]) w:=assert_yes Tryz.underlying182 v w
theorem storePlace_no (t:TypeId)(v:Value)(w:World)(h:t≠182):(Instr.typeAssert (.iface t v) 114 182 true).run Tryz.prog w = .ok (.tuple #[.agg #[.int .i64 0,.int .i64 0],.bool false]) w:=assert_no Tryz.underlying182 (by kernel_rfl) t v w h
theorem storePlace_nil (w:World):(Instr.typeAssert .nilIface 114 182 true).run Tryz.prog w = .ok (.tuple #[.agg #[.int .i64 0,.int .i64 0],.bool false]) w:=assert_nil Tryz.underlying182 (by kernel_rfl) w
theorem outPlace_yes (v:Value)(w:World):(Instr.typeAssert (.iface 184 v) 114 184 true).run Tryz.prog w = .ok (.tuple #[v,.bool true]) w:=assert_yes Tryz.underlying184 v w
theorem outPlace_no (t:TypeId)(v:Value)(w:World)(h:t≠184):(Instr.typeAssert (.iface t v) 114 184 true).run Tryz.prog w = .ok (.tuple #[.agg #[.int .i64 0],.bool false]) w:=assert_no Tryz.underlying184 (by kernel_rfl) t v w h
theorem outPlace_nil (w:World):(Instr.typeAssert .nilIface 114 184 true).run Tryz.prog w = .ok (.tuple #[.agg #[.int .i64 0],.bool false]) w:=assert_nil Tryz.underlying184 (by kernel_rfl) w
theorem readPlace_yes (v:Value)(w:World):(Instr.typeAssert (.iface 189 v) 114 189 true).run Tryz.prog w = .ok (.tuple #[v,.bool true]) w:=assert_yes Tryz.underlying189 v w
theorem readPlace_no (t:TypeId)(v:Value)(w:World)(h:t≠189):(Instr.typeAssert (.iface t v) 114 189 true).run Tryz.prog w = .ok (.tuple #[.agg #[.int .i64 0],.bool false]) w:=assert_no Tryz.underlying189 (by kernel_rfl) t v w h
theorem readPlace_nil (w:World):(Instr.typeAssert .nilIface 114 189 true).run Tryz.prog w = .ok (.tuple #[.agg #[.int .i64 0],.bool false]) w:=assert_nil Tryz.underlying189 (by kernel_rfl) w
theorem copyPlace_yes (v:Value)(w:World):(Instr.typeAssert (.iface 185 v) 114 185 true).run Tryz.prog w = .ok (.tuple #[v,.bool true]) w:=assert_yes Tryz.underlying185 v w
theorem copyPlace_no (t:TypeId)(v:Value)(w:World)(h:t≠185):(Instr.typeAssert (.iface t v) 114 185 true).run Tryz.prog w = .ok (.tuple #[.agg #[.int .i64 0,.int .i64 0],.bool false]) w:=assert_no Tryz.underlying185 (by kernel_rfl) t v w h
theorem copyPlace_nil (w:World):(Instr.typeAssert .nilIface 114 185 true).run Tryz.prog w = .ok (.tuple #[.agg #[.int .i64 0,.int .i64 0],.bool false]) w:=assert_nil Tryz.underlying185 (by kernel_rfl) w
set_option maxHeartbeats 1000000 in
set_option maxRecDepth 100000 in
theorem placeDef_any (op d a b n:Int)(w:World) :
  Calls Tryz.prog 66 #[placeV op d a b n] w fun e w'=>e = .returned (.tuple #[.int .i64 (madeV op d),.bool (makesV op)])∧Below w.heap.size w w':=by
 rcases op_cases op with h | h | h | h | h | h | ⟨⟨e0,e1,e2,e3,e4,e5⟩,⟨h,h1⟩ | h | ⟨h1,h⟩⟩
 all_goals
  first | (subst h;simp only[placeV,if_true,if_false,Int.reduceEq]) | (rw[placeV_word e0 e1 e2 e3 e4 e5 h h1]) | (rw[placeV_none e0 e1 e2 e3 e4 e5 (by omega)])
  have y0:=wordPlace_yes
  have n0:=wordPlace_no
  have z0:=wordPlace_nil
  have y1:=constPlace_yes
  have n1:=constPlace_no
  have z1:=constPlace_nil
  have y2:=loadPlace_yes
  have n2:=loadPlace_no
  have z2:=loadPlace_nil
  have y3:=readPlace_yes
  have n3:=readPlace_no
  have z3:=readPlace_nil
  have y4:=copyPlace_yes
  have n4:=copyPlace_no
  have z4:=copyPlace_nil
  go_enter Tryz.func66,Tryz.ntmps66
  go_wp2
  go_ret2
  exact⟨by first | (simp[madeV,makesV];done) | (rw[madeV,makesV_word h h1];rfl) | (rw[madeV,makesV_none e0 e1 e2 e3 e4 e5 (by omega)];rfl),by repeat (first | exact Below.refl _ _ | apply Below.drew | refine Below.alloc ?_ (by simp <;> omega) _ | refine Below.setCell ?_ (by simp <;> omega) _)⟩
structure ArmD where
 fr:Int
 v:Int
structure PhiD where
 d:Int
 arms:List ArmD
structure InsD where
 op:Int
 d:Int
 a:Int
 b:Int
 n:Int
structure TermD where
 k:Int
 a:Int
 t:Int
 e:Int
structure BlockD where
 phis:List PhiD
 list:List InsD
 term:TermD
structure FnD where
 blocks:List BlockD
 values:Int
def Keeps (lo:Nat)(w w':World):Prop := ∀p v,lo≤p.block→w.cell? p=some v→w'.cell? p=some v
theorem Keeps.of_below {w w':World}(h:Below w.heap.size w w')(lo:Nat):Keeps lo w w':=fun p v _ hc=>Bel.keeps h hc
theorem Keeps.trans {lo:Nat}{a b c:World}(h:Keeps lo a b)(k:Keeps lo b c):Keeps lo a c:=fun p v hp hc=>k p v hp (h p v hp hc)
theorem Keeps.setCell (w:World)(lo B o:Nat)(u:Value)(h:B<lo):Keeps lo w (w.setCell ⟨B,o,none⟩ u):=fun p v hp hc=>by
 rw[World.cell?_setCell_other _ _ _ _ (by intro e;rw[←e] at hp;exact absurd hp (by show ¬lo≤B;omega))]
 exact hc
theorem Keeps.mono {lo lo':Nat}{w w':World}(h:Keeps lo w w')(hl:lo≤lo'):Keeps lo' w w':=fun p v hp hc=>h p v (Nat.le_trans hl hp) hc
def ListAt {α:Type}(lo k:Nat)(E:World→Nat→Nat→α→Prop)(w:World)(v:Value)(l:List α):Prop :=
 ∃(a:Option Addr) (cap:Nat),v = .slice a l.length cap∧l.length≤9223372036854775807∧(0<l.length→∃b off,a=some ⟨b,off,none⟩∧lo≤b∧∀i x,l[i]? = some x→E w b (off+i*k) x)
theorem ListAt.keep {α:Type}{lo k:Nat}{E:World→Nat→Nat→α→Prop}{w w':World}{v:Value}{l:List α}(h:ListAt lo k E w v l)(hE:∀b o x,lo≤b→E w b o x→E w' b o x):ListAt lo k E w' v l:=by
 obtain⟨a,cap,rfl,hm,hc⟩:=h
 refine⟨a,cap,rfl,hm,fun hp=>?_⟩
 obtain⟨b,off,rfl,hb,hd⟩:=hc hp
 exact⟨b,off,rfl,hb,fun i x hi=>hE _ _ _ hb (hd i x hi)⟩
theorem ListAt.low {α:Type}{lo lo' k:Nat}{E E':World→Nat→Nat→α→Prop}{w:World}{v:Value}{l:List α}(h:ListAt lo k E w v l)(hl:lo'≤lo)(hE:∀b o x,E w b o x→E' w b o x):ListAt lo' k E' w v l:=by
 obtain⟨a,cap,rfl,hm,hc⟩:=h
 refine⟨a,cap,rfl,hm,fun hp=>?_⟩
 obtain⟨b,off,rfl,hb,hd⟩:=hc hp
 exact⟨b,off,rfl,Nat.le_trans hl hb,fun i x hi=>hE _ _ _ (hd i x hi)⟩
def ArmAt (w:World)(b o:Nat)(x:ArmD):Prop:=w.cell? ⟨b,o,none⟩=some (.int .i64 x.fr)∧w.cell? ⟨b,o+1,none⟩=some (.int .i64 x.v)
def InsAt (w:World)(b o:Nat)(x:InsD):Prop :=
 w.cell? ⟨b,o,none⟩=some (.int .i64 x.op)∧w.cell? ⟨b,o+1,none⟩=some (.int .i64 x.d)∧w.cell? ⟨b,o+2,none⟩=some (.int .i64 x.a)∧w.cell? ⟨b,o+3,none⟩=some (.int .i64 x.b)∧w.cell? ⟨b,o+4,none⟩=some (.int .i64 x.n)
def PhiAt (lo:Nat)(w:World)(b o:Nat)(x:PhiD):Prop :=
 w.cell? ⟨b,o,none⟩=some (.int .i64 x.d)∧∃v,w.cell? ⟨b,o+1,none⟩=some v∧ListAt lo 2 ArmAt w v x.arms
def BlockAt (lo:Nat)(w:World)(b o:Nat)(x:BlockD):Prop :=
 ∃pv lv,w.cell? ⟨b,o,none⟩=some pv∧w.cell? ⟨b,o+1,none⟩=some lv∧w.cell? ⟨b,o+2,none⟩=some (.int .i64 x.term.k)∧w.cell? ⟨b,o+3,none⟩=some (.int .i64 x.term.a)∧w.cell? ⟨b,o+4,none⟩=some (.int .i64 x.term.t)∧w.cell? ⟨b,o+5,none⟩=some (.int .i64 x.term.e) ∧
  ListAt lo 2 (PhiAt lo) w pv x.phis∧ListAt lo 5 InsAt w lv x.list
def FnAtLo (lo:Nat)(w:World)(v:Value)(F:FnD):Prop := ∃bv,v = .agg #[bv,.int .i64 F.values]∧ListAt lo 6 (BlockAt lo) w bv F.blocks
def FnAt (w:World)(v:Value)(F:FnD):Prop:=FnAtLo 0 w v F
theorem ArmAt.keep {lo:Nat}{w w':World}{b o:Nat}{x:ArmD}(h:ArmAt w b o x)(hk:Keeps lo w w')(hb:lo≤b):ArmAt w' b o x:=⟨hk _ _ hb h.1,hk _ _ hb h.2⟩
theorem InsAt.keep {lo:Nat}{w w':World}{b o:Nat}{x:InsD}(h:InsAt w b o x)(hk:Keeps lo w w')(hb:lo≤b):InsAt w' b o x :=
 ⟨hk _ _ hb h.1,hk _ _ hb h.2.1,hk _ _ hb h.2.2.1,hk _ _ hb h.2.2.2.1,hk _ _ hb h.2.2.2.2⟩
theorem arms_keep {lo:Nat}{w w':World}{v:Value}{l:List ArmD}(h:ListAt lo 2 ArmAt w v l)(hk:Keeps lo w w'):ListAt lo 2 ArmAt w' v l:=h.keep fun _ _ _ hb hx=>hx.keep hk hb
theorem places_keep {lo:Nat}{w w':World}{v:Value}{l:List InsD}(h:ListAt lo 5 InsAt w v l)(hk:Keeps lo w w'):ListAt lo 5 InsAt w' v l:=h.keep fun _ _ _ hb hx=>hx.keep hk hb
theorem PhiAt.keep {lo:Nat}{w w':World}{b o:Nat}{x:PhiD}(h:PhiAt lo w b o x)(hk:Keeps lo w w')(hb:lo≤b):PhiAt lo w' b o x:=by
 obtain⟨h1,v,h2,h3⟩:=h
 exact⟨hk _ _ hb h1,v,hk _ _ hb h2,arms_keep h3 hk⟩
theorem phis_keep {lo:Nat}{w w':World}{v:Value}{l:List PhiD}(h:ListAt lo 2 (PhiAt lo) w v l)(hk:Keeps lo w w'):ListAt lo 2 (PhiAt lo) w' v l:=h.keep fun _ _ _ hb hx=>hx.keep hk hb
theorem BlockAt.keep {lo:Nat}{w w':World}{b o:Nat}{x:BlockD}(h:BlockAt lo w b o x)(hk:Keeps lo w w')(hb:lo≤b):BlockAt lo w' b o x:=by
 obtain⟨pv,lv,h1,h2,h3,h4,h5,h6,h7,h8⟩:=h
 exact⟨pv,lv,hk _ _ hb h1,hk _ _ hb h2,hk _ _ hb h3,hk _ _ hb h4,hk _ _ hb h5,hk _ _ hb h6,phis_keep h7 hk,places_keep h8 hk⟩
theorem blocks_keep {lo:Nat}{w w':World}{v:Value}{l:List BlockD}(h:ListAt lo 6 (BlockAt lo) w v l)(hk:Keeps lo w w'):ListAt lo 6 (BlockAt lo) w' v l:=h.keep fun _ _ _ hb hx=>hx.keep hk hb
theorem FnAtLo.keep {lo:Nat}{w w':World}{v:Value}{F:FnD}(h:FnAtLo lo w v F)(hk:Keeps lo w w'):FnAtLo lo w' v F:=by
 obtain⟨bv,hv,hb⟩:=h
 exact⟨bv,hv,blocks_keep hb hk⟩
theorem FnAt.later {w w':World}{v:Value}{F:FnD}(h:FnAt w v F)(hb:Below w.heap.size w w'):FnAt w' v F:=FnAtLo.keep h (Keeps.of_below hb 0)
theorem PhiAt.low {lo lo':Nat}(hl:lo'≤lo){w:World}{b o:Nat}{x:PhiD}(h:PhiAt lo w b o x):PhiAt lo' w b o x:=by
 obtain⟨h1,v,h2,h3⟩:=h
 exact⟨h1,v,h2,h3.low hl fun _ _ _ hx=>hx⟩
theorem BlockAt.low {lo lo':Nat}(hl:lo'≤lo){w:World}{b o:Nat}{x:BlockD}(h:BlockAt lo w b o x):BlockAt lo' w b o x:=by
 obtain⟨pv,lv,h1,h2,h3,h4,h5,h6,h7,h8⟩:=h
 exact⟨pv,lv,h1,h2,h3,h4,h5,h6,h7.low hl fun _ _ _ hx=>hx.low hl,h8.low hl fun _ _ _ hx=>hx⟩
theorem FnAtLo.low {lo lo':Nat}(hl:lo'≤lo){w:World}{v:Value}{F:FnD}(h:FnAtLo lo w v F):FnAtLo lo' w v F:=by
 obtain⟨bv,hv,hb⟩:=h
 exact⟨bv,hv,hb.low hl fun _ _ _ hx=>hx.low hl⟩
theorem list_of {α:Type}{n:Nat}{Q:Nat→α→Prop}(h:∀i,i<n→∃x,Q i x):∃l:List α,l.length=n∧∀i x,l[i]? = some x→Q i x:=by
 induction n with
 | zero=>exact⟨[],rfl,fun i x hi=>by simp at hi⟩
 | succ n ih=>
  obtain⟨l,hl,hq⟩:=ih (fun i hi=>h i (by omega))
  obtain⟨x,hx⟩:=h n (by omega)
  refine⟨l ++ [x],by simp[hl],fun i y hi=>?_⟩
  by_cases hin:i<n
  ·rw[List.getElem?_append_left (by omega)] at hi
   exact hq i y hi
  ·have hi2:i<(l ++ [x]).length:=by
    by_cases hlt:i<(l ++ [x]).length
    ·exact hlt
    ·rw[List.getElem?_eq_none (by omega)] at hi
     cases hi
   have e:i=n:=by simp[hl] at hi2;omega
   subst e
   rw[List.getElem?_append_right (by omega)] at hi
   simp[hl] at hi
   subst hi
   exact hx
section
variable {H:Type} {enc:TypeId × Value→H} {w:World} {base:Nat} {spare:Nat→Bool} {held:Bool}
end
def IntsAt (w:World)(v:Value)(l:List Int):Prop :=
 ∃(a:Option Addr) (cap:Nat),v = .slice a l.length cap∧l.length≤9223372036854775807∧(0<l.length→∃b off,a=some ⟨b,off,none⟩∧∀i,i<l.length→w.cell? ⟨b,off+i,none⟩=some (.int .i64 (l.getD i 0)))
theorem IntsAt.keep {w w':World}{v:Value}{l:List Int}(h:IntsAt w v l)(hb:Below w.heap.size w w'):IntsAt w' v l:=by
 obtain⟨a,cap,rfl,hm,hc⟩:=h
 refine⟨a,cap,rfl,hm,fun hp=>?_⟩
 obtain⟨b,off,rfl,hd⟩:=hc hp
 exact⟨b,off,rfl,fun i hi=>Bel.keeps hb (hd i hi)⟩
theorem take_next {l:List Int}{k:Nat}(hl:k<l.length):l.take (k+1)=l.take k ++ [l.getD k 0]:=by
 rw[List.take_add_one]
 simp[hl]
theorem lists_step {l m:List Int}{k:Nat}(hl:k<l.length)(hm:k<m.length)(h:l.take k=m.take k)(e:l.getD k 0=m.getD k 0):l.take (k+1)=m.take (k+1):=by
 rw[take_next hl,take_next hm,h,e]
theorem lists_differ {l m:List Int}{k:Nat}(e:¬l.getD k 0=m.getD k 0):decide (l=m)=false:=by
 simp only[decide_eq_false_iff_not]
 rintro rfl
 exact e rfl
theorem lists_end {l m:List Int}{k:Nat}(hl:l.length=k)(hm:m.length=k)(h:l.take k=m.take k):decide (l=m)=true:=by
 simp only[decide_eq_true_eq]
 rw[List.take_of_length_le (by omega),List.take_of_length_le (by omega)] at h
 exact h
def RowNew (w:World)(b:Nat)(v:Value)(l:List Int):Prop :=
 v = .slice (some ⟨b,0,none⟩) l.length l.length∧l.length≤9223372036854775807∧b<w.heap.size∧(∀i,i<l.length→w.cell? ⟨b,i,none⟩=some (.int .i64 (l.getD i 0)))∧∀i,i<l.length→w.frozen? ⟨b,i,none⟩=false
theorem RowNew.at {w:World}{b:Nat}{v:Value}{l:List Int}(h:RowNew w b v l):IntsAt w v l:=by
 obtain⟨rfl,hm,hb,hc,hf⟩:=h
 exact⟨_,_,rfl,hm,fun _=>⟨b,0,rfl,fun i hi=>by simpa using hc i hi⟩⟩
theorem RowNew.keep {w w':World}{b:Nat}{v:Value}{l:List Int}(h:RowNew w b v l)(hb:Below w.heap.size w w'):RowNew w' b v l:=by
 obtain⟨rfl,hm,hlt,hc,hf⟩:=h
 refine⟨rfl,hm,Nat.lt_of_lt_of_le hlt hb.size,fun i hi=>Bel.keeps hb (hc i hi),fun i hi=>?_⟩
 rw[hb.frozen (p:=⟨b,i,none⟩) hlt]
 exact hf i hi
structure FrB (p:Nat)(w w':World):Prop where
 os:w'.os=w.os
 tape:w'.tape=w.tape
 output:w'.output=w.output
 size:w.heap.size≤w'.heap.size
 block:∀k,k<w.heap.size→k≠p→w'.heap[k]? = w.heap[k]?
theorem FrB.refl (p:Nat)(w:World):FrB p w w:=⟨rfl,rfl,rfl,Nat.le_refl _,fun _ _ _=>rfl⟩
theorem FrB.trans {p:Nat}{a b c:World}(h:FrB p a b)(k:FrB p b c):FrB p a c :=
 ⟨k.os.trans h.os,k.tape.trans h.tape,k.output.trans h.output,Nat.le_trans h.size k.size,fun i hi hp=>(k.block i (Nat.lt_of_lt_of_le hi h.size) hp).trans (h.block i hi hp)⟩
theorem FrB.setCell {p:Nat}{a w:World}(h:FrB p a w)(o:Nat)(u:Value):FrB p a (w.setCell ⟨p,o,none⟩ u) :=
 h.trans ⟨rfl,rfl,rfl,by simp[World.setCell],fun k _ hp=>Below.heap_setCell _ _ _ _ hp⟩
theorem FrB.below {p B:Nat}{a w:World}(h:FrB p a w)(hp:B≤p)(hB:B≤a.heap.size):Below B a w :=
 ⟨h.os,h.tape,h.output,h.size,fun k hk=>h.block k (by omega) (by omega)⟩
theorem FrB.ofBelow {p:Nat}{a w:World}(h:Below a.heap.size a w):FrB p a w :=
 ⟨h.os,h.tape,h.output,h.size,fun k hk _=>h.block k hk⟩
theorem FrB.cell {p:Nat}{a w:World}(h:FrB p a w){x:Addr}(hx:x.block<a.heap.size)(hp:x.block≠p):w.cell? x=a.cell? x:=World.cell?_of_block (w:=a) (h.block x.block hx hp)
theorem FrB.frozen {p:Nat}{a w:World}(h:FrB p a w){x:Addr}(hx:x.block<a.heap.size)(hp:x.block≠p):w.frozen? x=a.frozen? x:=World.frozen?_of_block (w:=a) (h.block x.block hx hp)
theorem RowNew.aside {w w':World}{b p:Nat}{v:Value}{l:List Int}(h:RowNew w b v l)(hb:FrB p w w')(hp:b≠p):RowNew w' b v l:=by
 obtain⟨rfl,hm,hlt,hc,hf⟩:=h
 refine⟨rfl,hm,Nat.lt_of_lt_of_le hlt hb.size,fun i hi=>?_,fun i hi=>?_⟩
 ·rw[hb.cell (x:=⟨b,i,none⟩) hlt hp]
  exact hc i hi
 ·rw[hb.frozen (x:=⟨b,i,none⟩) hlt hp]
  exact hf i hi
theorem rowNew0 (w:World)(t:TypeId)(B:Nat)(hB:B=w.heap.size):RowNew (w.alloc (.cells #[] t)) B (.slice (some ⟨B,0,none⟩) 0 0) []:=by
 subst hB
 exact⟨rfl,by simp,by simp,fun i hi=>absurd hi (by simp),fun i hi=>absurd hi (by simp)⟩
theorem rowNew1 (w:World)(t:TypeId)(a:Int)(B:Nat)(hB:B=w.heap.size):RowNew (w.alloc (.cells #[.int .i64 a] t)) B (.slice (some ⟨B,0,none⟩) 1 1) [a]:=by
 subst hB
 refine⟨rfl,by simp,by simp,fun i hi=>?_,fun i hi=>?_⟩
 all_goals
  simp at hi
  subst hi
  simp
theorem rowNew2 (w:World)(t:TypeId)(a b:Int)(B:Nat)(hB:B=w.heap.size):RowNew (w.alloc (.cells #[.int .i64 a,.int .i64 b] t)) B (.slice (some ⟨B,0,none⟩) 2 2) [a,b]:=by
 subst hB
 refine⟨rfl,by simp,by simp,fun i hi=>?_,fun i hi=>?_⟩
 all_goals
  have hi':i=0∨i=1:=by simp at hi;omega
  rcases hi' with rfl | rfl
  ·simp
  ·simp
def GivesInts (w:World)(l:List Int)(e:Ending)(w':World):Prop := ∃v k,e = .returned v∧w.heap.size≤k∧RowNew w' k v l∧Below w.heap.size w w'
def usesV (op a b:Int):List Int:=if (1≤op∧op≤10)∨op=22 then [a,b] else if op=21∨op=23∨op=25 then [a] else []
theorem usesV_word {op a b:Int}(h:1≤op)(h1:op≤10):usesV op a b = [a,b]:=by simp[usesV,h,h1]
theorem usesV_none {op a b:Int}(e0:(op == 20)=false)(e1:(op == 21)=false)(e2:(op == 22)=false)(e3:(op == 23)=false)(e4:(op == 24)=false)(e5:(op == 25)=false)(h:¬(1≤op∧op≤10)):usesV op a b = []:=by
 simp only[beq_eq_false_iff_ne,ne_eq] at e0 e1 e2 e3 e4 e5
 simp only[usesV,e1,e2,e3,e5,h,or_self,if_false]
set_option maxHeartbeats 1000000 in
theorem placeUses_any (op d a b n:Int)(w:World) :
  Calls Tryz.prog 62 #[placeV op d a b n] w fun e w'=>GivesInts w (usesV op a b) e w':=by
 rcases op_cases op with h | h | h | h | h | h | ⟨⟨e0,e1,e2,e3,e4,e5⟩,⟨h,h1⟩ | h | ⟨h1,h⟩⟩
 all_goals
  first | (have hu:usesV op a b = [a,b]:=by first | exact usesV_word h h1 | (simp[usesV,h];done)) | (have hu:usesV op a b = [a]:=by simp[usesV,h];done) | (have hu:usesV op a b = []:=by first | (simp[usesV,h];done) | exact usesV_none e0 e1 e2 e3 e4 e5 (by omega))
  rw[hu]
  clear hu
  first | (subst h;simp only[placeV,if_true,if_false,Int.reduceEq]) | (rw[placeV_word e0 e1 e2 e3 e4 e5 h h1]) | (rw[placeV_none e0 e1 e2 e3 e4 e5 (by omega)])
  have y0:=wordPlace_yes
  have n0:=wordPlace_no
  have z0:=wordPlace_nil
  have y1:=loadPlace_yes
  have n1:=loadPlace_no
  have z1:=loadPlace_nil
  have y2:=storePlace_yes
  have n2:=storePlace_no
  have z2:=storePlace_nil
  have y3:=outPlace_yes
  have n3:=outPlace_no
  have z3:=outPlace_nil
  have y4:=copyPlace_yes
  have n4:=copyPlace_no
  have z4:=copyPlace_nil
  go_enter Tryz.func62,Tryz.ntmps62
  go_wp2
  go_ret
  first | exact⟨_,_,rfl,by simp,rowNew2 _ _ _ _ _ (by simp),by repeat (first | exact Below.refl _ _ | apply Below.drew | refine Below.alloc ?_ (by simp <;> omega) _ | refine Below.setCell ?_ (by simp <;> omega) _)⟩ | exact⟨_,_,rfl,by simp,rowNew1 _ _ _ _ (by simp),by repeat (first | exact Below.refl _ _ | apply Below.drew | refine Below.alloc ?_ (by simp <;> omega) _ | refine Below.setCell ?_ (by simp <;> omega) _)⟩ | exact⟨_,_,rfl,by simp,rowNew0 _ _ _ (by simp),by repeat (first | exact Below.refl _ _ | apply Below.drew | refine Below.alloc ?_ (by simp <;> omega) _ | refine Below.setCell ?_ (by simp <;> omega) _)⟩
theorem impl_insUses (op d a b n:Int)(w:World) :
  Calls Tryz.prog 21 #[.agg #[.int .i64 op,.int .i64 d,.int .i64 a,.int .i64 b,.int .i64 n]] w fun e w'=>GivesInts w (usesV op a b) e w':=by
 go_enter Tryz.func21,Tryz.ntmps21
 go_wp2_with fail
 refine(placeOf_any op d a b n _).mono ?_
 rintro e w1 ⟨rfl,b1⟩
 have b2:=Bel.after (Bel.alloc w _) b1
 clear b1
 go_wp2_with fail
 refine(placeUses_any op d a b n _).mono ?_
 rintro e w2 ⟨v,k,rfl,hk,hr,b3⟩
 have HR:Hid (RowNew w2 k v (usesV op a b)):=hr
 clear hr
 go_wp2
 go_ret
 exact⟨_,_,rfl,Nat.le_trans b2.size hk,HR.out,Bel.after b2 b3⟩
def endsV (k a:Int):List Int:=if k=2∨k=3 then [a] else []
theorem impl_termUses (k a t e:Int)(w:World) :
  Calls Tryz.prog 147 #[.agg #[.int .i64 k,.int .i64 a,.int .i64 t,.int .i64 e]] w fun r w'=>GivesInts w (endsV k a) r w':=by
 by_cases h2:k=2
 ·rw[show endsV k a = [a] by simp[endsV,h2]]
  go_enter Tryz.func147,Tryz.ntmps147
  go_wp2
  go_ret
  exact⟨_,_,rfl,by simp,rowNew1 _ _ _ _ (by simp),by repeat (first | exact Below.refl _ _ | apply Below.drew | refine Below.alloc ?_ (by simp <;> omega) _ | refine Below.setCell ?_ (by simp <;> omega) _)⟩
 ·by_cases h3:k=3
  ·rw[show endsV k a = [a] by simp[endsV,h3]]
   go_enter Tryz.func147,Tryz.ntmps147
   go_wp2
   go_ret
   exact⟨_,_,rfl,by simp,rowNew1 _ _ _ _ (by simp),by repeat (first | exact Below.refl _ _ | apply Below.drew | refine Below.alloc ?_ (by simp <;> omega) _ | refine Below.setCell ?_ (by simp <;> omega) _)⟩
  ·rw[show endsV k a = [] by simp[endsV,h2,h3]]
   have e2:(k == 2)=false:=by simpa using h2
   have e3:(k == 3)=false:=by simpa using h3
   clear h2 h3
   go_enter Tryz.func147,Tryz.ntmps147
   go_wp2
   go_ret
   exact⟨_,_,rfl,by simp,rowNew0 _ _ _ (by simp),by repeat (first | exact Below.refl _ _ | apply Below.drew | refine Below.alloc ?_ (by simp <;> omega) _ | refine Below.setCell ?_ (by simp <;> omega) _)⟩
end Go.Proofs.YtfnilamkapabkaaGreatDoor
