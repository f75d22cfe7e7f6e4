/- The shape of a program, part 3: the places, as the program looks at them. The shape of a program, part 3: the places, as the program looks at them. -/
import Derived.Test.YtkbhbekfniadhaaGreatKSh1
set_option maxHeartbeats 4000000
namespace Go.Proofs.YtkbhbekfniadhaaGreat
open Go.ChangeShapes Go.WideShapes Go.ChangeAt Go.RowKit
set_option linter.unusedVariables false
theorem JK (d a:Int)(w:World) :
  Calls Tryz.prog 154 #[.agg #[vi d,vi a]] w fun e w'=>e=.returned (.agg #[vi 21,vi d,vi a,vi 0,vi 0])∧Below w.heap.size w w':=by
 go_enter Tryz.func154,Tryz.ntmps154
 go_wp2
 go_returns
 exact⟨rfl,by repeat (first | exact Below.refl _ _ | apply Below.drew | refine Below.alloc ?_ (by simp <;> omega) _ | refine Below.setCell ?_ (by simp <;> omega) _)⟩
theorem Kw (d a b n:Int)(w:World):Calls Tryz.prog 52 #[.agg #[vi 21,vi d,vi a,vi b,vi n]] w fun e w'=>e=.returned (.iface 115 (.agg #[vi d,vi a]))∧Below w.heap.size w w':=by
 have hp:=qf 21 d a b n w;simp only[qh,if_true,if_false,Int.reduceEq] at hp;exact hp
theorem acm (d a b n:Int)(w:World):Calls Tryz.prog 53 #[(.iface 115 (.agg #[vi d,vi a]))] w fun e w'=>e=.returned (.tuple #[vi d,.bool true])∧Below w.heap.size w w':=by
 have hp:=qs 21 d a b n w;simp only[qh,if_true,if_false,Int.reduceEq] at hp;simp only[XM,kD] at hp;simpa using hp
theorem aaX (d a b n:Int)(w:World):Calls Tryz.prog 51 #[(.iface 115 (.agg #[vi d,vi a]))] w fun e w'=>qp w [a] e w':=by
 have hp:=qb 21 d a b n w;simp only[qh,if_true,if_false,Int.reduceEq] at hp;simp only[kK] at hp;simpa using hp
theorem aad (ba:Option Addr)(bn bcap:Nat)(vals d a b n:Int)(hz:(b == 0)=false)(hz2:((0:Int) == b)=false)(w:World) :
  Calls Tryz.prog 88 #[.agg #[.slice ba bn bcap,vi vals],.agg #[vi 21,vi d,vi a,vi b,vi n]] w fun e w'=>jh w false e w':=by
 go_enter Tryz.func88,Tryz.ntmps88
 go_wp2_with fail
 refine(Kw d a b n _).mono ?_;rintro e w1 ⟨rfl,b1⟩;obtain⟨h,g0,g1,c0,c1,c2,c3,c4⟩:=k8 b1;clear b1;go_wp2
 go_region_with (go_at_call 154;refine(JK d a _).mono ?_;rintro e w2 ⟨rfl,b2⟩;have r:Hid (Below w.heap.size w w2):=Bel.after (by first | exact h.out.drew | exact h.out) b2;obtain⟨k0,k1,k2,k3,k4,m0,m1⟩:=xm b2 c0 c1 c2 c3 c4 g0 g1)
 all_goals
  go_wp2;go_ret;exact⟨rfl,by assumption⟩
theorem aae (ba:Option Addr)(bn bcap:Nat)(vals d a n:Int)(hz:(n == 0)=false)(hz2:((0:Int) == n)=false)(w:World) :
  Calls Tryz.prog 88 #[.agg #[.slice ba bn bcap,vi vals],.agg #[vi 21,vi d,vi a,vi 0,vi n]] w fun e w'=>jh w false e w':=by
 go_enter Tryz.func88,Tryz.ntmps88
 go_wp2_with fail
 refine(Kw d a 0 n _).mono ?_;rintro e w1 ⟨rfl,b1⟩;obtain⟨h,g0,g1,c0,c1,c2,c3,c4⟩:=k8 b1;clear b1;go_wp2
 go_region_with (go_at_call 154;refine(JK d a _).mono ?_;rintro e w2 ⟨rfl,b2⟩;have r:Hid (Below w.heap.size w w2):=Bel.after (by first | exact h.out.drew | exact h.out) b2;obtain⟨k0,k1,k2,k3,k4,m0,m1⟩:=xm b2 c0 c1 c2 c3 c4 g0 g1)
 all_goals
  go_wp2;go_ret;exact⟨rfl,by assumption⟩
theorem aaf (ba:Option Addr)(bn bcap:Nat)(vals d a:Int)(w:World) :
  Calls Tryz.prog 88 #[.agg #[.slice ba bn bcap,vi vals],.agg #[vi 21,vi d,vi a,vi 0,vi 0]] w fun e w'=>jh w (jl vals d && List.all [a] (jl vals)) e w':=by
 go_enter Tryz.func88,Tryz.ntmps88
 go_wp2_with fail
 refine(Kw d a 0 0 _).mono ?_;rintro e w1 ⟨rfl,b1⟩;obtain⟨r,g0,g1,c0,c1,c2,c3,c4⟩:=k8 b1;clear b1;go_wp2
 go_region_with (go_at_call 154;refine(JK d a _).mono ?_;rintro e w2 ⟨rfl,b2⟩;have B:Hid (Below w.heap.size w w2):=Bel.after (by first | exact r.out.drew | exact r.out) b2;obtain⟨k0,k1,k2,k3,k4,m0,m1⟩:=xm b2 c0 c1 c2 c3 c4 g0 g1)
 all_goals
  obtain⟨bb,HBB⟩:∃bb,Hid (List.all [a] (jl vals)=bb):=⟨_,rfl⟩;go_wp2_with fail
  refine(acm d a 0 0 _).mono ?_;rintro e w3 ⟨rfl,b3⟩;have t:Hid (Below w.heap.size w w3):=Bel.after (Hid.out (by assumption)) b3;have n0:=Bel.keeps b3 (p:=(Z w.heap.size 0)) (v:=.slice ba bn bcap) (by assumption);have n1:=Bel.keeps b3 (p:=(Z w.heap.size 1)) (v:=vi vals) (by assumption);clear b3;go_wp2_with fail
  refine(qW ba bn bcap vals d _).mono ?_;rintro e w4 ⟨rfl,b4⟩;have h:Hid (Below w.heap.size w w4):=Bel.after t.out b4;have q0:=Bel.keeps b4 n0;have q1:=Bel.keeps b4 n1;clear b4;cases hv:jl vals d
  ·go_wp2;go_ret;exact⟨by simp[hv],h.out⟩
  ·go_wp2
   go_region_with (first | (go_at_call 51;refine(aaX d a 0 0 _).mono ?_;rintro e w5 ⟨lv,kb,rfl,hkb,hrow,b5⟩;have G:Hid (Below w.heap.size w w5):=Bel.after (by first | exact h.out.drew | exact h.out) b5;have I:Hid (jV w5 lv [a]):=hrow.at;have r0:=Bel.keeps b5 q0;have r1:=Bel.keeps b5 q1;obtain⟨rfl,_⟩:=hrow) | (go_at_call 111;refine(jY ba bn bcap vals _ [a] bb HBB.out _ (Hid.out (by assumption))).mono ?_;rintro e w6 ⟨rfl,b6⟩;have H:Hid (Below w.heap.size w w6):=Bel.after (Hid.out (by assumption)) b6))
   all_goals
    go_wp2;go_ret;exact⟨by rw[hv,HBB.out];rfl,Hid.out (by assumption)⟩
theorem zT (a b:Int)(w:World) :
  Calls Tryz.prog 155 #[.agg #[vi a,vi b]] w fun e w'=>e=.returned (.agg #[vi 22,vi 0,vi a,vi b,vi 0])∧Below w.heap.size w w':=by
 go_enter Tryz.func155,Tryz.ntmps155
 go_wp2
 go_returns
 exact⟨rfl,by repeat (first | exact Below.refl _ _ | apply Below.drew | refine Below.alloc ?_ (by simp <;> omega) _ | refine Below.setCell ?_ (by simp <;> omega) _)⟩
theorem JM (d a b n:Int)(w:World):Calls Tryz.prog 52 #[.agg #[vi 22,vi d,vi a,vi b,vi n]] w fun e w'=>e=.returned (.iface 117 (.agg #[vi a,vi b]))∧Below w.heap.size w w':=by
 have hp:=qf 22 d a b n w;simp only[qh,if_true,if_false,Int.reduceEq] at hp;exact hp
theorem aaY (d a b n:Int)(w:World):Calls Tryz.prog 53 #[(.iface 117 (.agg #[vi a,vi b]))] w fun e w'=>e=.returned (.tuple #[vi 0,.bool false])∧Below w.heap.size w w':=by
 have hp:=qs 22 d a b n w;simp only[qh,if_true,if_false,Int.reduceEq] at hp;simp only[XM,kD] at hp;simpa using hp
theorem aag (d a b n:Int)(w:World):Calls Tryz.prog 51 #[(.iface 117 (.agg #[vi a,vi b]))] w fun e w'=>qp w [a,b] e w':=by
 have hp:=qb 22 d a b n w;simp only[qh,if_true,if_false,Int.reduceEq] at hp;simp only[kK] at hp;simpa using hp
theorem YG (ba:Option Addr)(bn bcap:Nat)(vals d a b n:Int)(hz:(d == 0)=false)(hz2:((0:Int) == d)=false)(w:World) :
  Calls Tryz.prog 88 #[.agg #[.slice ba bn bcap,vi vals],.agg #[vi 22,vi d,vi a,vi b,vi n]] w fun e w'=>jh w false e w':=by
 go_enter Tryz.func88,Tryz.ntmps88
 go_wp2_with fail
 refine(JM d a b n _).mono ?_;rintro e w1 ⟨rfl,b1⟩;obtain⟨h,g0,g1,c0,c1,c2,c3,c4⟩:=k8 b1;clear b1;go_wp2
 go_region_with (go_at_call 155;refine(zT a b _).mono ?_;rintro e w2 ⟨rfl,b2⟩;have r:Hid (Below w.heap.size w w2):=Bel.after (by first | exact h.out.drew | exact h.out) b2;obtain⟨k0,k1,k2,k3,k4,m0,m1⟩:=xm b2 c0 c1 c2 c3 c4 g0 g1)
 all_goals
  go_wp2;go_ret;exact⟨rfl,by assumption⟩
theorem YH (ba:Option Addr)(bn bcap:Nat)(vals a b n:Int)(hz:(n == 0)=false)(hz2:((0:Int) == n)=false)(w:World) :
  Calls Tryz.prog 88 #[.agg #[.slice ba bn bcap,vi vals],.agg #[vi 22,vi 0,vi a,vi b,vi n]] w fun e w'=>jh w false e w':=by
 go_enter Tryz.func88,Tryz.ntmps88
 go_wp2_with fail
 refine(JM 0 a b n _).mono ?_;rintro e w1 ⟨rfl,b1⟩;obtain⟨h,g0,g1,c0,c1,c2,c3,c4⟩:=k8 b1;clear b1;go_wp2
 go_region_with (go_at_call 155;refine(zT a b _).mono ?_;rintro e w2 ⟨rfl,b2⟩;have r:Hid (Below w.heap.size w w2):=Bel.after (by first | exact h.out.drew | exact h.out) b2;obtain⟨k0,k1,k2,k3,k4,m0,m1⟩:=xm b2 c0 c1 c2 c3 c4 g0 g1)
 all_goals
  go_wp2;go_ret;exact⟨rfl,by assumption⟩
theorem YI (ba:Option Addr)(bn bcap:Nat)(vals a b:Int)(w:World) :
  Calls Tryz.prog 88 #[.agg #[.slice ba bn bcap,vi vals],.agg #[vi 22,vi 0,vi a,vi b,vi 0]] w fun e w'=>jh w (List.all [a,b] (jl vals)) e w':=by
 go_enter Tryz.func88,Tryz.ntmps88
 go_wp2_with fail
 refine(JM 0 a b 0 _).mono ?_;rintro e w1 ⟨rfl,b1⟩;obtain⟨h,g0,g1,c0,c1,c2,c3,c4⟩:=k8 b1;clear b1;go_wp2
 go_region_with (go_at_call 155;refine(zT a b _).mono ?_;rintro e w2 ⟨rfl,b2⟩;have B:Hid (Below w.heap.size w w2):=Bel.after (by first | exact h.out.drew | exact h.out) b2;obtain⟨k0,k1,k2,k3,k4,m0,m1⟩:=xm b2 c0 c1 c2 c3 c4 g0 g1)
 all_goals
  obtain⟨bb,HBB⟩:∃bb,Hid (List.all [a,b] (jl vals)=bb):=⟨_,rfl⟩;go_wp2_with fail
  refine(aaY 0 a b 0 _).mono ?_;rintro e w3 ⟨rfl,b3⟩;have t:Hid (Below w.heap.size w w3):=Bel.after (Hid.out (by assumption)) b3;have n0:=Bel.keeps b3 (p:=(Z w.heap.size 0)) (v:=.slice ba bn bcap) (by assumption);have n1:=Bel.keeps b3 (p:=(Z w.heap.size 1)) (v:=vi vals) (by assumption);clear b3;have r:Hid (Below w.heap.size w w3):=t.out;have q0:=n0;have q1:=n1;go_wp2
  go_region_with (first | (go_at_call 51;refine(aag 0 a b 0 _).mono ?_;rintro e w5 ⟨lv,kb,rfl,hkb,hrow,b5⟩;have G:Hid (Below w.heap.size w w5):=Bel.after (by first | exact r.out.drew | exact r.out) b5;have I:Hid (jV w5 lv [a,b]):=hrow.at;have r0:=Bel.keeps b5 q0;have r1:=Bel.keeps b5 q1;obtain⟨rfl,_⟩:=hrow) | (go_at_call 111;refine(jY ba bn bcap vals _ [a,b] bb HBB.out _ (Hid.out (by assumption))).mono ?_;rintro e w6 ⟨rfl,b6⟩;have H:Hid (Below w.heap.size w w6):=Bel.after (Hid.out (by assumption)) b6))
  all_goals
   go_wp2;go_ret;exact⟨by rw[HBB.out];rfl,Hid.out (by assumption)⟩
theorem zK (a:Int)(w:World) :
  Calls Tryz.prog 156 #[.agg #[vi a]] w fun e w'=>e=.returned (.agg #[vi 23,vi 0,vi a,vi 0,vi 0])∧Below w.heap.size w w':=by
 go_enter Tryz.func156,Tryz.ntmps156
 go_wp2
 go_returns
 exact⟨rfl,by repeat (first | exact Below.refl _ _ | apply Below.drew | refine Below.alloc ?_ (by simp <;> omega) _ | refine Below.setCell ?_ (by simp <;> omega) _)⟩
theorem JN (d a b n:Int)(w:World):Calls Tryz.prog 52 #[.agg #[vi 23,vi d,vi a,vi b,vi n]] w fun e w'=>e=.returned (.iface 119 (.agg #[vi a]))∧Below w.heap.size w w':=by
 have hp:=qf 23 d a b n w;simp only[qh,if_true,if_false,Int.reduceEq] at hp;exact hp
theorem ady (d a b n:Int)(w:World):Calls Tryz.prog 53 #[(.iface 119 (.agg #[vi a]))] w fun e w'=>e=.returned (.tuple #[vi 0,.bool false])∧Below w.heap.size w w':=by
 have hp:=qs 23 d a b n w;simp only[qh,if_true,if_false,Int.reduceEq] at hp;simp only[XM,kD] at hp;simpa using hp
theorem acn (d a b n:Int)(w:World):Calls Tryz.prog 51 #[(.iface 119 (.agg #[vi a]))] w fun e w'=>qp w [a] e w':=by
 have hp:=qb 23 d a b n w;simp only[qh,if_true,if_false,Int.reduceEq] at hp;simp only[kK] at hp;simpa using hp
theorem aaZ (ba:Option Addr)(bn bcap:Nat)(vals d a b n:Int)(hz:(d == 0)=false)(hz2:((0:Int) == d)=false)(w:World) :
  Calls Tryz.prog 88 #[.agg #[.slice ba bn bcap,vi vals],.agg #[vi 23,vi d,vi a,vi b,vi n]] w fun e w'=>jh w false e w':=by
 go_enter Tryz.func88,Tryz.ntmps88
 go_wp2_with fail
 refine(JN d a b n _).mono ?_;rintro e w1 ⟨rfl,b1⟩;obtain⟨h,g0,g1,c0,c1,c2,c3,c4⟩:=k8 b1;clear b1;go_wp2
 go_region_with (go_at_call 156;refine(zK a _).mono ?_;rintro e w2 ⟨rfl,b2⟩;have r:Hid (Below w.heap.size w w2):=Bel.after (by first | exact h.out.drew | exact h.out) b2;obtain⟨k0,k1,k2,k3,k4,m0,m1⟩:=xm b2 c0 c1 c2 c3 c4 g0 g1)
 all_goals
  go_wp2;go_ret;exact⟨rfl,by assumption⟩
theorem aa0 (ba:Option Addr)(bn bcap:Nat)(vals a b n:Int)(hz:(b == 0)=false)(hz2:((0:Int) == b)=false)(w:World) :
  Calls Tryz.prog 88 #[.agg #[.slice ba bn bcap,vi vals],.agg #[vi 23,vi 0,vi a,vi b,vi n]] w fun e w'=>jh w false e w':=by
 go_enter Tryz.func88,Tryz.ntmps88
 go_wp2_with fail
 refine(JN 0 a b n _).mono ?_;rintro e w1 ⟨rfl,b1⟩;obtain⟨h,g0,g1,c0,c1,c2,c3,c4⟩:=k8 b1;clear b1;go_wp2
 go_region_with (go_at_call 156;refine(zK a _).mono ?_;rintro e w2 ⟨rfl,b2⟩;have r:Hid (Below w.heap.size w w2):=Bel.after (by first | exact h.out.drew | exact h.out) b2;obtain⟨k0,k1,k2,k3,k4,m0,m1⟩:=xm b2 c0 c1 c2 c3 c4 g0 g1)
 all_goals
  go_wp2;go_ret;exact⟨rfl,by assumption⟩
theorem aa1 (ba:Option Addr)(bn bcap:Nat)(vals a n:Int)(hz:(n == 0)=false)(hz2:((0:Int) == n)=false)(w:World) :
  Calls Tryz.prog 88 #[.agg #[.slice ba bn bcap,vi vals],.agg #[vi 23,vi 0,vi a,vi 0,vi n]] w fun e w'=>jh w false e w':=by
 go_enter Tryz.func88,Tryz.ntmps88
 go_wp2_with fail
 refine(JN 0 a 0 n _).mono ?_;rintro e w1 ⟨rfl,b1⟩;obtain⟨h,g0,g1,c0,c1,c2,c3,c4⟩:=k8 b1;clear b1;go_wp2
 go_region_with (go_at_call 156;refine(zK a _).mono ?_;rintro e w2 ⟨rfl,b2⟩;have r:Hid (Below w.heap.size w w2):=Bel.after (by first | exact h.out.drew | exact h.out) b2;obtain⟨k0,k1,k2,k3,k4,m0,m1⟩:=xm b2 c0 c1 c2 c3 c4 g0 g1)
 all_goals
  go_wp2;go_ret;exact⟨rfl,by assumption⟩
theorem aa2 (ba:Option Addr)(bn bcap:Nat)(vals a:Int)(w:World) :
  Calls Tryz.prog 88 #[.agg #[.slice ba bn bcap,vi vals],.agg #[vi 23,vi 0,vi a,vi 0,vi 0]] w fun e w'=>jh w (List.all [a] (jl vals)) e w':=by
 go_enter Tryz.func88,Tryz.ntmps88
 go_wp2_with fail
 refine(JN 0 a 0 0 _).mono ?_;rintro e w1 ⟨rfl,b1⟩;obtain⟨h,g0,g1,c0,c1,c2,c3,c4⟩:=k8 b1;clear b1;go_wp2
 go_region_with (go_at_call 156;refine(zK a _).mono ?_;rintro e w2 ⟨rfl,b2⟩;have B:Hid (Below w.heap.size w w2):=Bel.after (by first | exact h.out.drew | exact h.out) b2;obtain⟨k0,k1,k2,k3,k4,m0,m1⟩:=xm b2 c0 c1 c2 c3 c4 g0 g1)
 all_goals
  obtain⟨bb,HBB⟩:∃bb,Hid (List.all [a] (jl vals)=bb):=⟨_,rfl⟩;go_wp2_with fail
  refine(ady 0 a 0 0 _).mono ?_;rintro e w3 ⟨rfl,b3⟩;have t:Hid (Below w.heap.size w w3):=Bel.after (Hid.out (by assumption)) b3;have n0:=Bel.keeps b3 (p:=(Z w.heap.size 0)) (v:=.slice ba bn bcap) (by assumption);have n1:=Bel.keeps b3 (p:=(Z w.heap.size 1)) (v:=vi vals) (by assumption);clear b3;have r:Hid (Below w.heap.size w w3):=t.out;have q0:=n0;have q1:=n1;go_wp2
  go_region_with (first | (go_at_call 51;refine(acn 0 a 0 0 _).mono ?_;rintro e w5 ⟨lv,kb,rfl,hkb,hrow,b5⟩;have G:Hid (Below w.heap.size w w5):=Bel.after (by first | exact r.out.drew | exact r.out) b5;have I:Hid (jV w5 lv [a]):=hrow.at;have r0:=Bel.keeps b5 q0;have r1:=Bel.keeps b5 q1;obtain⟨rfl,_⟩:=hrow) | (go_at_call 111;refine(jY ba bn bcap vals _ [a] bb HBB.out _ (Hid.out (by assumption))).mono ?_;rintro e w6 ⟨rfl,b6⟩;have H:Hid (Below w.heap.size w w6):=Bel.after (Hid.out (by assumption)) b6))
  all_goals
   go_wp2;go_ret;exact⟨by rw[HBB.out];rfl,Hid.out (by assumption)⟩
theorem JO (d a:Int)(w:World) :
  Calls Tryz.prog 157 #[.agg #[vi d,vi a]] w fun e w'=>e=.returned (.agg #[vi 25,vi d,vi a,vi 0,vi 0])∧Below w.heap.size w w':=by
 go_enter Tryz.func157,Tryz.ntmps157
 go_wp2
 go_returns
 exact⟨rfl,by repeat (first | exact Below.refl _ _ | apply Below.drew | refine Below.alloc ?_ (by simp <;> omega) _ | refine Below.setCell ?_ (by simp <;> omega) _)⟩
theorem Kx (d a b n:Int)(w:World):Calls Tryz.prog 52 #[.agg #[vi 25,vi d,vi a,vi b,vi n]] w fun e w'=>e=.returned (.iface 120 (.agg #[vi d,vi a]))∧Below w.heap.size w w':=by
 have hp:=qf 25 d a b n w;simp only[qh,if_true,if_false,Int.reduceEq] at hp;exact hp
theorem aco (d a b n:Int)(w:World):Calls Tryz.prog 53 #[(.iface 120 (.agg #[vi d,vi a]))] w fun e w'=>e=.returned (.tuple #[vi d,.bool true])∧Below w.heap.size w w':=by
 have hp:=qs 25 d a b n w;simp only[qh,if_true,if_false,Int.reduceEq] at hp;simp only[XM,kD] at hp;simpa using hp
theorem aa3 (d a b n:Int)(w:World):Calls Tryz.prog 51 #[(.iface 120 (.agg #[vi d,vi a]))] w fun e w'=>qp w [a] e w':=by
 have hp:=qb 25 d a b n w;simp only[qh,if_true,if_false,Int.reduceEq] at hp;simp only[kK] at hp;simpa using hp
theorem aah (ba:Option Addr)(bn bcap:Nat)(vals d a b n:Int)(hz:(b == 0)=false)(hz2:((0:Int) == b)=false)(w:World) :
  Calls Tryz.prog 88 #[.agg #[.slice ba bn bcap,vi vals],.agg #[vi 25,vi d,vi a,vi b,vi n]] w fun e w'=>jh w false e w':=by
 go_enter Tryz.func88,Tryz.ntmps88
 go_wp2_with fail
 refine(Kx d a b n _).mono ?_;rintro e w1 ⟨rfl,b1⟩;obtain⟨h,g0,g1,c0,c1,c2,c3,c4⟩:=k8 b1;clear b1;go_wp2
 go_region_with (go_at_call 157;refine(JO d a _).mono ?_;rintro e w2 ⟨rfl,b2⟩;have r:Hid (Below w.heap.size w w2):=Bel.after (by first | exact h.out.drew | exact h.out) b2;obtain⟨k0,k1,k2,k3,k4,m0,m1⟩:=xm b2 c0 c1 c2 c3 c4 g0 g1)
 all_goals
  go_wp2;go_ret;exact⟨rfl,by assumption⟩
theorem aai (ba:Option Addr)(bn bcap:Nat)(vals d a n:Int)(hz:(n == 0)=false)(hz2:((0:Int) == n)=false)(w:World) :
  Calls Tryz.prog 88 #[.agg #[.slice ba bn bcap,vi vals],.agg #[vi 25,vi d,vi a,vi 0,vi n]] w fun e w'=>jh w false e w':=by
 go_enter Tryz.func88,Tryz.ntmps88
 go_wp2_with fail
 refine(Kx d a 0 n _).mono ?_;rintro e w1 ⟨rfl,b1⟩;obtain⟨h,g0,g1,c0,c1,c2,c3,c4⟩:=k8 b1;clear b1;go_wp2
 go_region_with (go_at_call 157;refine(JO d a _).mono ?_;rintro e w2 ⟨rfl,b2⟩;have r:Hid (Below w.heap.size w w2):=Bel.after (by first | exact h.out.drew | exact h.out) b2;obtain⟨k0,k1,k2,k3,k4,m0,m1⟩:=xm b2 c0 c1 c2 c3 c4 g0 g1)
 all_goals
  go_wp2;go_ret;exact⟨rfl,by assumption⟩
theorem aaj (ba:Option Addr)(bn bcap:Nat)(vals d a:Int)(w:World) :
  Calls Tryz.prog 88 #[.agg #[.slice ba bn bcap,vi vals],.agg #[vi 25,vi d,vi a,vi 0,vi 0]] w fun e w'=>jh w (jl vals d && List.all [a] (jl vals)) e w':=by
 go_enter Tryz.func88,Tryz.ntmps88
 go_wp2_with fail
 refine(Kx d a 0 0 _).mono ?_;rintro e w1 ⟨rfl,b1⟩;obtain⟨r,g0,g1,c0,c1,c2,c3,c4⟩:=k8 b1;clear b1;go_wp2
 go_region_with (go_at_call 157;refine(JO d a _).mono ?_;rintro e w2 ⟨rfl,b2⟩;have B:Hid (Below w.heap.size w w2):=Bel.after (by first | exact r.out.drew | exact r.out) b2;obtain⟨k0,k1,k2,k3,k4,m0,m1⟩:=xm b2 c0 c1 c2 c3 c4 g0 g1)
 all_goals
  obtain⟨bb,HBB⟩:∃bb,Hid (List.all [a] (jl vals)=bb):=⟨_,rfl⟩;go_wp2_with fail
  refine(aco d a 0 0 _).mono ?_;rintro e w3 ⟨rfl,b3⟩;have t:Hid (Below w.heap.size w w3):=Bel.after (Hid.out (by assumption)) b3;have n0:=Bel.keeps b3 (p:=(Z w.heap.size 0)) (v:=.slice ba bn bcap) (by assumption);have n1:=Bel.keeps b3 (p:=(Z w.heap.size 1)) (v:=vi vals) (by assumption);clear b3;go_wp2_with fail
  refine(qW ba bn bcap vals d _).mono ?_;rintro e w4 ⟨rfl,b4⟩;have h:Hid (Below w.heap.size w w4):=Bel.after t.out b4;have q0:=Bel.keeps b4 n0;have q1:=Bel.keeps b4 n1;clear b4;cases hv:jl vals d
  ·go_wp2;go_ret;exact⟨by simp[hv],h.out⟩
  ·go_wp2
   go_region_with (first | (go_at_call 51;refine(aa3 d a 0 0 _).mono ?_;rintro e w5 ⟨lv,kb,rfl,hkb,hrow,b5⟩;have G:Hid (Below w.heap.size w w5):=Bel.after (by first | exact h.out.drew | exact h.out) b5;have I:Hid (jV w5 lv [a]):=hrow.at;have r0:=Bel.keeps b5 q0;have r1:=Bel.keeps b5 q1;obtain⟨rfl,_⟩:=hrow) | (go_at_call 111;refine(jY ba bn bcap vals _ [a] bb HBB.out _ (Hid.out (by assumption))).mono ?_;rintro e w6 ⟨rfl,b6⟩;have H:Hid (Below w.heap.size w w6):=Bel.after (Hid.out (by assumption)) b6))
   all_goals
    go_wp2;go_ret;exact⟨by rw[hv,HBB.out];rfl,Hid.out (by assumption)⟩
end Go.Proofs.YtkbhbekfniadhaaGreat
