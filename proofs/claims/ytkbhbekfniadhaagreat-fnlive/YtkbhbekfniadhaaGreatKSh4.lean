/- The shape of a program, part 4: the ends, as the program looks at them. The shape of a program, part 3: the places, as the program looks at them. The shape of a program, part 3: the places, as the program looks at them. -/
import Derived.Test.YtkbhbekfniadhaaGreatKSh1
set_option maxHeartbeats 4000000
namespace Go.Proofs.YtkbhbekfniadhaaGreat
open Go.ChangeShapes Go.WideShapes Go.ChangeAt Go.RowKit
set_option linter.unusedVariables false
theorem Qc (k a:Int)(l:List Int)(h:kT k a=l)(t o:Int)(w:World):Calls Tryz.prog 22 #[.agg #[vi k,vi a,vi t,vi o]] w fun r w'=>qp w l r w':=by
 subst h;exact Q2 k a t o w
theorem YJ (ba:Option Addr)(bn bcap:Nat)(vals a t o:Int)(hz:(a == 0)=false)(w:World) :
  Calls Tryz.prog 89 #[.agg #[.slice ba bn bcap,vi vals],.agg #[vi 1,vi a,vi t,vi o]] w fun e w'=>jh w (false) e w':=by
 go_enter Tryz.func89,Tryz.ntmps89
 go_wp2
 go_region_with (first | (go_at_call 22;refine(Qc 1 a [] (by simp[kT]) t o _).mono ?_;rintro e w5 ⟨lv,kb,rfl,hkb,hrow,b5⟩;have h:Hid (Below w.heap.size w w5):=Bel.after (by repeat (first | exact Below.refl _ _ | apply Below.drew | refine Below.alloc ?_ (by simp <;> omega) _ | refine Below.setCell ?_ (by simp <;> omega) _)) b5;have B:Hid (jV w5 lv []):=hrow.at;have r0:=Bel.keeps b5 (p:=(Z w.heap.size 0)) (v:=.slice ba bn bcap) (by simp[go_sem]);have r1:=Bel.keeps b5 (p:=(Z w.heap.size 1)) (v:=vi vals) (by simp[go_sem]);have t0:=Bel.keeps b5 (p:=(Z (w.heap.size+1) 0)) (v:=vi 1) (by simp[go_sem]);have t1:=Bel.keeps b5 (p:=(Z (w.heap.size+1) 1)) (v:=vi a) (by simp[go_sem]);have t2:=Bel.keeps b5 (p:=(Z (w.heap.size+1) 2)) (v:=vi t) (by simp[go_sem]);have t3:=Bel.keeps b5 (p:=(Z (w.heap.size+1) 3)) (v:=vi o) (by simp[go_sem]);obtain⟨rfl,_⟩:=hrow) | (go_at_call 111;refine(jY ba bn bcap vals _ [] true (by simp) _ (Hid.out (by assumption))).mono ?_;rintro e w6 ⟨rfl,b6⟩;have r:Hid (Below w.heap.size w w6):=Bel.after (Hid.out (by assumption)) b6;have s0:=Bel.keeps b6 (p:=(Z w.heap.size 0)) (v:=.slice ba bn bcap) (by assumption);have s1:=Bel.keeps b6 (p:=(Z w.heap.size 1)) (v:=vi vals) (by assumption);have u0:=Bel.keeps b6 (p:=(Z (w.heap.size+1) 0)) (v:=vi 1) (by assumption);have u1:=Bel.keeps b6 (p:=(Z (w.heap.size+1) 1)) (v:=vi a) (by assumption);have u2:=Bel.keeps b6 (p:=(Z (w.heap.size+1) 2)) (v:=vi t) (by assumption);have u3:=Bel.keeps b6 (p:=(Z (w.heap.size+1) 3)) (v:=vi o) (by assumption)))
 all_goals
  go_wp2;go_ret;exact⟨by first|rfl|(simp;done),Hid.out (by assumption)⟩
theorem YK (ba:Option Addr)(bn bcap:Nat)(vals t o:Int)(hz:(o == 0)=false)(w:World) :
  Calls Tryz.prog 89 #[.agg #[.slice ba bn bcap,vi vals],.agg #[vi 1,vi 0,vi t,vi o]] w fun e w'=>jh w (false) e w':=by
 go_enter Tryz.func89,Tryz.ntmps89
 go_wp2
 go_region_with (first | (go_at_call 22;refine(Qc 1 0 [] (by simp[kT]) t o _).mono ?_;rintro e w5 ⟨lv,kb,rfl,hkb,hrow,b5⟩;have h:Hid (Below w.heap.size w w5):=Bel.after (by repeat (first | exact Below.refl _ _ | apply Below.drew | refine Below.alloc ?_ (by simp <;> omega) _ | refine Below.setCell ?_ (by simp <;> omega) _)) b5;have B:Hid (jV w5 lv []):=hrow.at;have r0:=Bel.keeps b5 (p:=(Z w.heap.size 0)) (v:=.slice ba bn bcap) (by simp[go_sem]);have r1:=Bel.keeps b5 (p:=(Z w.heap.size 1)) (v:=vi vals) (by simp[go_sem]);have t0:=Bel.keeps b5 (p:=(Z (w.heap.size+1) 0)) (v:=vi 1) (by simp[go_sem]);have t1:=Bel.keeps b5 (p:=(Z (w.heap.size+1) 1)) (v:=vi 0) (by simp[go_sem]);have t2:=Bel.keeps b5 (p:=(Z (w.heap.size+1) 2)) (v:=vi t) (by simp[go_sem]);have t3:=Bel.keeps b5 (p:=(Z (w.heap.size+1) 3)) (v:=vi o) (by simp[go_sem]);obtain⟨rfl,_⟩:=hrow) | (go_at_call 111;refine(jY ba bn bcap vals _ [] true (by simp) _ (Hid.out (by assumption))).mono ?_;rintro e w6 ⟨rfl,b6⟩;have r:Hid (Below w.heap.size w w6):=Bel.after (Hid.out (by assumption)) b6;have s0:=Bel.keeps b6 (p:=(Z w.heap.size 0)) (v:=.slice ba bn bcap) (by assumption);have s1:=Bel.keeps b6 (p:=(Z w.heap.size 1)) (v:=vi vals) (by assumption);have u0:=Bel.keeps b6 (p:=(Z (w.heap.size+1) 0)) (v:=vi 1) (by assumption);have u1:=Bel.keeps b6 (p:=(Z (w.heap.size+1) 1)) (v:=vi 0) (by assumption);have u2:=Bel.keeps b6 (p:=(Z (w.heap.size+1) 2)) (v:=vi t) (by assumption);have u3:=Bel.keeps b6 (p:=(Z (w.heap.size+1) 3)) (v:=vi o) (by assumption)))
 all_goals
  go_wp2;go_ret;exact⟨by first|rfl|(simp;done),Hid.out (by assumption)⟩
theorem YL (ba:Option Addr)(bn bcap:Nat)(vals t:Int)(w:World) :
  Calls Tryz.prog 89 #[.agg #[.slice ba bn bcap,vi vals],.agg #[vi 1,vi 0,vi t,vi 0]] w fun e w'=>jh w (jl (bn:Int) t) e w':=by
 go_enter Tryz.func89,Tryz.ntmps89
 go_wp2
 go_region_with (first | (go_at_call 22;refine(Qc 1 0 [] (by simp[kT]) t 0 _).mono ?_;rintro e w5 ⟨lv,kb,rfl,hkb,hrow,b5⟩;have r:Hid (Below w.heap.size w w5):=Bel.after (by repeat (first | exact Below.refl _ _ | apply Below.drew | refine Below.alloc ?_ (by simp <;> omega) _ | refine Below.setCell ?_ (by simp <;> omega) _)) b5;have G:Hid (jV w5 lv []):=hrow.at;have r0:=Bel.keeps b5 (p:=(Z w.heap.size 0)) (v:=.slice ba bn bcap) (by simp[go_sem]);have r1:=Bel.keeps b5 (p:=(Z w.heap.size 1)) (v:=vi vals) (by simp[go_sem]);have t0:=Bel.keeps b5 (p:=(Z (w.heap.size+1) 0)) (v:=vi 1) (by simp[go_sem]);have t1:=Bel.keeps b5 (p:=(Z (w.heap.size+1) 1)) (v:=vi 0) (by simp[go_sem]);have t2:=Bel.keeps b5 (p:=(Z (w.heap.size+1) 2)) (v:=vi t) (by simp[go_sem]);have t3:=Bel.keeps b5 (p:=(Z (w.heap.size+1) 3)) (v:=vi 0) (by simp[go_sem]);obtain⟨rfl,_⟩:=hrow) | (go_at_call 111;refine(jY ba bn bcap vals _ [] true (by simp) _ (Hid.out (by assumption))).mono ?_;rintro e w6 ⟨rfl,b6⟩;have B:Hid (Below w.heap.size w w6):=Bel.after (Hid.out (by assumption)) b6;have s0:=Bel.keeps b6 (p:=(Z w.heap.size 0)) (v:=.slice ba bn bcap) (by assumption);have s1:=Bel.keeps b6 (p:=(Z w.heap.size 1)) (v:=vi vals) (by assumption);have u0:=Bel.keeps b6 (p:=(Z (w.heap.size+1) 0)) (v:=vi 1) (by assumption);have u1:=Bel.keeps b6 (p:=(Z (w.heap.size+1) 1)) (v:=vi 0) (by assumption);have u2:=Bel.keeps b6 (p:=(Z (w.heap.size+1) 2)) (v:=vi t) (by assumption);have u3:=Bel.keeps b6 (p:=(Z (w.heap.size+1) 3)) (v:=vi 0) (by assumption)))
 all_goals
  go_wp2_with fail
  refine(zk ba bn bcap vals t _).mono ?_;rintro e w7 ⟨rfl,b7⟩;have h:Hid (Below w.heap.size w w7):=Bel.after (Hid.out (by assumption)) b7;clear b7;go_wp2;go_ret;exact⟨by first|rfl|(simp;done),h.out⟩
theorem XY (ba:Option Addr)(bn bcap:Nat)(vals a t o:Int)(hv:jl vals a=false)(w:World) :
  Calls Tryz.prog 89 #[.agg #[.slice ba bn bcap,vi vals],.agg #[vi 2,vi a,vi t,vi o]] w fun e w'=>jh w (false) e w':=by
 go_enter Tryz.func89,Tryz.ntmps89
 go_wp2
 go_region_with (first | (go_at_call 22;refine(Qc 2 a [a] (by simp[kT]) t o _).mono ?_;rintro e w5 ⟨lv,kb,rfl,hkb,hrow,b5⟩;have h:Hid (Below w.heap.size w w5):=Bel.after (by repeat (first | exact Below.refl _ _ | apply Below.drew | refine Below.alloc ?_ (by simp <;> omega) _ | refine Below.setCell ?_ (by simp <;> omega) _)) b5;have B:Hid (jV w5 lv [a]):=hrow.at;have r0:=Bel.keeps b5 (p:=(Z w.heap.size 0)) (v:=.slice ba bn bcap) (by simp[go_sem]);have r1:=Bel.keeps b5 (p:=(Z w.heap.size 1)) (v:=vi vals) (by simp[go_sem]);have t0:=Bel.keeps b5 (p:=(Z (w.heap.size+1) 0)) (v:=vi 2) (by simp[go_sem]);have t1:=Bel.keeps b5 (p:=(Z (w.heap.size+1) 1)) (v:=vi a) (by simp[go_sem]);have t2:=Bel.keeps b5 (p:=(Z (w.heap.size+1) 2)) (v:=vi t) (by simp[go_sem]);have t3:=Bel.keeps b5 (p:=(Z (w.heap.size+1) 3)) (v:=vi o) (by simp[go_sem]);obtain⟨rfl,_⟩:=hrow) | (go_at_call 111;refine(jY ba bn bcap vals _ [a] false (by simp[hv]) _ (Hid.out (by assumption))).mono ?_;rintro e w6 ⟨rfl,b6⟩;have r:Hid (Below w.heap.size w w6):=Bel.after (Hid.out (by assumption)) b6;have s0:=Bel.keeps b6 (p:=(Z w.heap.size 0)) (v:=.slice ba bn bcap) (by assumption);have s1:=Bel.keeps b6 (p:=(Z w.heap.size 1)) (v:=vi vals) (by assumption);have u0:=Bel.keeps b6 (p:=(Z (w.heap.size+1) 0)) (v:=vi 2) (by assumption);have u1:=Bel.keeps b6 (p:=(Z (w.heap.size+1) 1)) (v:=vi a) (by assumption);have u2:=Bel.keeps b6 (p:=(Z (w.heap.size+1) 2)) (v:=vi t) (by assumption);have u3:=Bel.keeps b6 (p:=(Z (w.heap.size+1) 3)) (v:=vi o) (by assumption)))
 all_goals
  go_wp2;go_ret;exact⟨by first|rfl|(simp;done),Hid.out (by assumption)⟩
theorem Xr (ba:Option Addr)(bn bcap:Nat)(vals a t o:Int)(hv:jl vals a=true)(w:World) :
  Calls Tryz.prog 89 #[.agg #[.slice ba bn bcap,vi vals],.agg #[vi 2,vi a,vi t,vi o]] w fun e w'=>jh w (jl (bn:Int) t && jl (bn:Int) o) e w':=by
 go_enter Tryz.func89,Tryz.ntmps89
 go_wp2
 go_region_with (first | (go_at_call 22;refine(Qc 2 a [a] (by simp[kT]) t o _).mono ?_;rintro e w5 ⟨lv,kb,rfl,hkb,hrow,b5⟩;have G:Hid (Below w.heap.size w w5):=Bel.after (by repeat (first | exact Below.refl _ _ | apply Below.drew | refine Below.alloc ?_ (by simp <;> omega) _ | refine Below.setCell ?_ (by simp <;> omega) _)) b5;have I:Hid (jV w5 lv [a]):=hrow.at;have r0:=Bel.keeps b5 (p:=(Z w.heap.size 0)) (v:=.slice ba bn bcap) (by simp[go_sem]);have r1:=Bel.keeps b5 (p:=(Z w.heap.size 1)) (v:=vi vals) (by simp[go_sem]);have t0:=Bel.keeps b5 (p:=(Z (w.heap.size+1) 0)) (v:=vi 2) (by simp[go_sem]);have t1:=Bel.keeps b5 (p:=(Z (w.heap.size+1) 1)) (v:=vi a) (by simp[go_sem]);have t2:=Bel.keeps b5 (p:=(Z (w.heap.size+1) 2)) (v:=vi t) (by simp[go_sem]);have t3:=Bel.keeps b5 (p:=(Z (w.heap.size+1) 3)) (v:=vi o) (by simp[go_sem]);obtain⟨rfl,_⟩:=hrow) | (go_at_call 111;refine(jY ba bn bcap vals _ [a] true (by simp[hv]) _ (Hid.out (by assumption))).mono ?_;rintro e w6 ⟨rfl,b6⟩;have H:Hid (Below w.heap.size w w6):=Bel.after (Hid.out (by assumption)) b6;have s0:=Bel.keeps b6 (p:=(Z w.heap.size 0)) (v:=.slice ba bn bcap) (by assumption);have s1:=Bel.keeps b6 (p:=(Z w.heap.size 1)) (v:=vi vals) (by assumption);have u0:=Bel.keeps b6 (p:=(Z (w.heap.size+1) 0)) (v:=vi 2) (by assumption);have u1:=Bel.keeps b6 (p:=(Z (w.heap.size+1) 1)) (v:=vi a) (by assumption);have u2:=Bel.keeps b6 (p:=(Z (w.heap.size+1) 2)) (v:=vi t) (by assumption);have u3:=Bel.keeps b6 (p:=(Z (w.heap.size+1) 3)) (v:=vi o) (by assumption)))
 all_goals
  go_wp2_with fail
  refine(zk ba bn bcap vals t _).mono ?_;rintro e w7 ⟨rfl,b7⟩;have h:Hid (Below w.heap.size w w7):=Bel.after (Hid.out (by assumption)) b7;have v0:=Bel.keeps b7 (p:=(Z w.heap.size 0)) (v:=.slice ba bn bcap) (by assumption);have v1:=Bel.keeps b7 (p:=(Z w.heap.size 1)) (v:=vi vals) (by assumption);have v3:=Bel.keeps b7 (p:=(Z (w.heap.size+1) 3)) (v:=vi o) (by assumption);clear b7;cases r:jl (bn:Int) t
  ·go_wp2;go_ret;exact⟨by rw[r];rfl,h.out⟩
  ·go_wp2_with fail
   refine(zk ba bn bcap vals o _).mono ?_;rintro e w8 ⟨rfl,b8⟩;have B:Hid (Below w.heap.size w w8):=Bel.after h.out b8;clear b8;go_wp2;go_ret;exact⟨by rw[r];first|rfl|(simp;done),B.out⟩
theorem aak (ba:Option Addr)(bn bcap:Nat)(vals a t o:Int)(hv:jl vals a=false)(w:World) :
  Calls Tryz.prog 89 #[.agg #[.slice ba bn bcap,vi vals],.agg #[vi 3,vi a,vi t,vi o]] w fun e w'=>jh w (false) e w':=by
 go_enter Tryz.func89,Tryz.ntmps89
 go_wp2
 go_region_with (first | (go_at_call 22;refine(Qc 3 a [a] (by simp[kT]) t o _).mono ?_;rintro e w5 ⟨lv,kb,rfl,hkb,hrow,b5⟩;have h:Hid (Below w.heap.size w w5):=Bel.after (by repeat (first | exact Below.refl _ _ | apply Below.drew | refine Below.alloc ?_ (by simp <;> omega) _ | refine Below.setCell ?_ (by simp <;> omega) _)) b5;have B:Hid (jV w5 lv [a]):=hrow.at;have r0:=Bel.keeps b5 (p:=(Z w.heap.size 0)) (v:=.slice ba bn bcap) (by simp[go_sem]);have r1:=Bel.keeps b5 (p:=(Z w.heap.size 1)) (v:=vi vals) (by simp[go_sem]);have t0:=Bel.keeps b5 (p:=(Z (w.heap.size+1) 0)) (v:=vi 3) (by simp[go_sem]);have t1:=Bel.keeps b5 (p:=(Z (w.heap.size+1) 1)) (v:=vi a) (by simp[go_sem]);have t2:=Bel.keeps b5 (p:=(Z (w.heap.size+1) 2)) (v:=vi t) (by simp[go_sem]);have t3:=Bel.keeps b5 (p:=(Z (w.heap.size+1) 3)) (v:=vi o) (by simp[go_sem]);obtain⟨rfl,_⟩:=hrow) | (go_at_call 111;refine(jY ba bn bcap vals _ [a] false (by simp[hv]) _ (Hid.out (by assumption))).mono ?_;rintro e w6 ⟨rfl,b6⟩;have r:Hid (Below w.heap.size w w6):=Bel.after (Hid.out (by assumption)) b6;have s0:=Bel.keeps b6 (p:=(Z w.heap.size 0)) (v:=.slice ba bn bcap) (by assumption);have s1:=Bel.keeps b6 (p:=(Z w.heap.size 1)) (v:=vi vals) (by assumption);have u0:=Bel.keeps b6 (p:=(Z (w.heap.size+1) 0)) (v:=vi 3) (by assumption);have u1:=Bel.keeps b6 (p:=(Z (w.heap.size+1) 1)) (v:=vi a) (by assumption);have u2:=Bel.keeps b6 (p:=(Z (w.heap.size+1) 2)) (v:=vi t) (by assumption);have u3:=Bel.keeps b6 (p:=(Z (w.heap.size+1) 3)) (v:=vi o) (by assumption)))
 all_goals
  go_wp2;go_ret;exact⟨by first|rfl|(simp;done),Hid.out (by assumption)⟩
theorem YM (ba:Option Addr)(bn bcap:Nat)(vals a t o:Int)(hv:jl vals a=true)(hz:(t == 0)=false)(w:World) :
  Calls Tryz.prog 89 #[.agg #[.slice ba bn bcap,vi vals],.agg #[vi 3,vi a,vi t,vi o]] w fun e w'=>jh w (false) e w':=by
 go_enter Tryz.func89,Tryz.ntmps89
 go_wp2
 go_region_with (first | (go_at_call 22;refine(Qc 3 a [a] (by simp[kT]) t o _).mono ?_;rintro e w5 ⟨lv,kb,rfl,hkb,hrow,b5⟩;have h:Hid (Below w.heap.size w w5):=Bel.after (by repeat (first | exact Below.refl _ _ | apply Below.drew | refine Below.alloc ?_ (by simp <;> omega) _ | refine Below.setCell ?_ (by simp <;> omega) _)) b5;have B:Hid (jV w5 lv [a]):=hrow.at;have r0:=Bel.keeps b5 (p:=(Z w.heap.size 0)) (v:=.slice ba bn bcap) (by simp[go_sem]);have r1:=Bel.keeps b5 (p:=(Z w.heap.size 1)) (v:=vi vals) (by simp[go_sem]);have t0:=Bel.keeps b5 (p:=(Z (w.heap.size+1) 0)) (v:=vi 3) (by simp[go_sem]);have t1:=Bel.keeps b5 (p:=(Z (w.heap.size+1) 1)) (v:=vi a) (by simp[go_sem]);have t2:=Bel.keeps b5 (p:=(Z (w.heap.size+1) 2)) (v:=vi t) (by simp[go_sem]);have t3:=Bel.keeps b5 (p:=(Z (w.heap.size+1) 3)) (v:=vi o) (by simp[go_sem]);obtain⟨rfl,_⟩:=hrow) | (go_at_call 111;refine(jY ba bn bcap vals _ [a] true (by simp[hv]) _ (Hid.out (by assumption))).mono ?_;rintro e w6 ⟨rfl,b6⟩;have r:Hid (Below w.heap.size w w6):=Bel.after (Hid.out (by assumption)) b6;have s0:=Bel.keeps b6 (p:=(Z w.heap.size 0)) (v:=.slice ba bn bcap) (by assumption);have s1:=Bel.keeps b6 (p:=(Z w.heap.size 1)) (v:=vi vals) (by assumption);have u0:=Bel.keeps b6 (p:=(Z (w.heap.size+1) 0)) (v:=vi 3) (by assumption);have u1:=Bel.keeps b6 (p:=(Z (w.heap.size+1) 1)) (v:=vi a) (by assumption);have u2:=Bel.keeps b6 (p:=(Z (w.heap.size+1) 2)) (v:=vi t) (by assumption);have u3:=Bel.keeps b6 (p:=(Z (w.heap.size+1) 3)) (v:=vi o) (by assumption)))
 all_goals
  go_wp2;go_ret;exact⟨by first|rfl|(simp;done),Hid.out (by assumption)⟩
theorem YN (ba:Option Addr)(bn bcap:Nat)(vals a o:Int)(hv:jl vals a=true)(hz:(o == 0)=false)(w:World) :
  Calls Tryz.prog 89 #[.agg #[.slice ba bn bcap,vi vals],.agg #[vi 3,vi a,vi 0,vi o]] w fun e w'=>jh w (false) e w':=by
 go_enter Tryz.func89,Tryz.ntmps89
 go_wp2
 go_region_with (first | (go_at_call 22;refine(Qc 3 a [a] (by simp[kT]) 0 o _).mono ?_;rintro e w5 ⟨lv,kb,rfl,hkb,hrow,b5⟩;have h:Hid (Below w.heap.size w w5):=Bel.after (by repeat (first | exact Below.refl _ _ | apply Below.drew | refine Below.alloc ?_ (by simp <;> omega) _ | refine Below.setCell ?_ (by simp <;> omega) _)) b5;have t:Hid (jV w5 lv [a]):=hrow.at;have r0:=Bel.keeps b5 (p:=(Z w.heap.size 0)) (v:=.slice ba bn bcap) (by simp[go_sem]);have r1:=Bel.keeps b5 (p:=(Z w.heap.size 1)) (v:=vi vals) (by simp[go_sem]);have t0:=Bel.keeps b5 (p:=(Z (w.heap.size+1) 0)) (v:=vi 3) (by simp[go_sem]);have t1:=Bel.keeps b5 (p:=(Z (w.heap.size+1) 1)) (v:=vi a) (by simp[go_sem]);have t2:=Bel.keeps b5 (p:=(Z (w.heap.size+1) 2)) (v:=vi 0) (by simp[go_sem]);have t3:=Bel.keeps b5 (p:=(Z (w.heap.size+1) 3)) (v:=vi o) (by simp[go_sem]);obtain⟨rfl,_⟩:=hrow) | (go_at_call 111;refine(jY ba bn bcap vals _ [a] true (by simp[hv]) _ (Hid.out (by assumption))).mono ?_;rintro e w6 ⟨rfl,b6⟩;have r:Hid (Below w.heap.size w w6):=Bel.after (Hid.out (by assumption)) b6;have s0:=Bel.keeps b6 (p:=(Z w.heap.size 0)) (v:=.slice ba bn bcap) (by assumption);have s1:=Bel.keeps b6 (p:=(Z w.heap.size 1)) (v:=vi vals) (by assumption);have u0:=Bel.keeps b6 (p:=(Z (w.heap.size+1) 0)) (v:=vi 3) (by assumption);have u1:=Bel.keeps b6 (p:=(Z (w.heap.size+1) 1)) (v:=vi a) (by assumption);have u2:=Bel.keeps b6 (p:=(Z (w.heap.size+1) 2)) (v:=vi 0) (by assumption);have u3:=Bel.keeps b6 (p:=(Z (w.heap.size+1) 3)) (v:=vi o) (by assumption)))
 all_goals
  go_wp2;go_ret;exact⟨by first|rfl|(simp;done),Hid.out (by assumption)⟩
theorem YO (ba:Option Addr)(bn bcap:Nat)(vals a:Int)(hv:jl vals a=true)(w:World) :
  Calls Tryz.prog 89 #[.agg #[.slice ba bn bcap,vi vals],.agg #[vi 3,vi a,vi 0,vi 0]] w fun e w'=>jh w (true) e w':=by
 go_enter Tryz.func89,Tryz.ntmps89
 go_wp2
 go_region_with (first | (go_at_call 22;refine(Qc 3 a [a] (by simp[kT]) 0 0 _).mono ?_;rintro e w5 ⟨lv,kb,rfl,hkb,hrow,b5⟩;have h:Hid (Below w.heap.size w w5):=Bel.after (by repeat (first | exact Below.refl _ _ | apply Below.drew | refine Below.alloc ?_ (by simp <;> omega) _ | refine Below.setCell ?_ (by simp <;> omega) _)) b5;have t:Hid (jV w5 lv [a]):=hrow.at;have r0:=Bel.keeps b5 (p:=(Z w.heap.size 0)) (v:=.slice ba bn bcap) (by simp[go_sem]);have r1:=Bel.keeps b5 (p:=(Z w.heap.size 1)) (v:=vi vals) (by simp[go_sem]);have t0:=Bel.keeps b5 (p:=(Z (w.heap.size+1) 0)) (v:=vi 3) (by simp[go_sem]);have t1:=Bel.keeps b5 (p:=(Z (w.heap.size+1) 1)) (v:=vi a) (by simp[go_sem]);have t2:=Bel.keeps b5 (p:=(Z (w.heap.size+1) 2)) (v:=vi 0) (by simp[go_sem]);have t3:=Bel.keeps b5 (p:=(Z (w.heap.size+1) 3)) (v:=vi 0) (by simp[go_sem]);obtain⟨rfl,_⟩:=hrow) | (go_at_call 111;refine(jY ba bn bcap vals _ [a] true (by simp[hv]) _ (Hid.out (by assumption))).mono ?_;rintro e w6 ⟨rfl,b6⟩;have r:Hid (Below w.heap.size w w6):=Bel.after (Hid.out (by assumption)) b6;have s0:=Bel.keeps b6 (p:=(Z w.heap.size 0)) (v:=.slice ba bn bcap) (by assumption);have s1:=Bel.keeps b6 (p:=(Z w.heap.size 1)) (v:=vi vals) (by assumption);have u0:=Bel.keeps b6 (p:=(Z (w.heap.size+1) 0)) (v:=vi 3) (by assumption);have u1:=Bel.keeps b6 (p:=(Z (w.heap.size+1) 1)) (v:=vi a) (by assumption);have u2:=Bel.keeps b6 (p:=(Z (w.heap.size+1) 2)) (v:=vi 0) (by assumption);have u3:=Bel.keeps b6 (p:=(Z (w.heap.size+1) 3)) (v:=vi 0) (by assumption)))
 all_goals
  go_wp2;go_ret;exact⟨by first|rfl|(simp;done),Hid.out (by assumption)⟩
theorem aes (ba:Option Addr)(bn bcap:Nat)(vals k a t o:Int)(e1:(k == 1)=false)(e2:(k == 2)=false)(e3:(k == 3)=false)(w:World) :
  Calls Tryz.prog 89 #[.agg #[.slice ba bn bcap,vi vals],.agg #[vi k,vi a,vi t,vi o]] w fun e w'=>jh w (false) e w':=by
 have h:Hid (kT k a = []):=by
  simp only[beq_eq_false_iff_ne,ne_eq] at e2 e3;show kT k a = [];simp[kT,e2,e3]
 go_enter Tryz.func89,Tryz.ntmps89
 go_wp2
 go_region_with (first | (go_at_call 22;refine(Qc k a [] h.out t o _).mono ?_;rintro e w5 ⟨lv,kb,rfl,hkb,hrow,b5⟩;have r:Hid (Below w.heap.size w w5):=Bel.after (by repeat (first | exact Below.refl _ _ | apply Below.drew | refine Below.alloc ?_ (by simp <;> omega) _ | refine Below.setCell ?_ (by simp <;> omega) _)) b5;have G:Hid (jV w5 lv []):=hrow.at;have r0:=Bel.keeps b5 (p:=(Z w.heap.size 0)) (v:=.slice ba bn bcap) (by simp[go_sem]);have r1:=Bel.keeps b5 (p:=(Z w.heap.size 1)) (v:=vi vals) (by simp[go_sem]);have t0:=Bel.keeps b5 (p:=(Z (w.heap.size+1) 0)) (v:=vi k) (by simp[go_sem]);have t1:=Bel.keeps b5 (p:=(Z (w.heap.size+1) 1)) (v:=vi a) (by simp[go_sem]);have t2:=Bel.keeps b5 (p:=(Z (w.heap.size+1) 2)) (v:=vi t) (by simp[go_sem]);have t3:=Bel.keeps b5 (p:=(Z (w.heap.size+1) 3)) (v:=vi o) (by simp[go_sem]);obtain⟨rfl,_⟩:=hrow) | (go_at_call 111;refine(jY ba bn bcap vals _ [] true (by simp) _ (Hid.out (by assumption))).mono ?_;rintro e w6 ⟨rfl,b6⟩;have B:Hid (Below w.heap.size w w6):=Bel.after (Hid.out (by assumption)) b6;have s0:=Bel.keeps b6 (p:=(Z w.heap.size 0)) (v:=.slice ba bn bcap) (by assumption);have s1:=Bel.keeps b6 (p:=(Z w.heap.size 1)) (v:=vi vals) (by assumption);have u0:=Bel.keeps b6 (p:=(Z (w.heap.size+1) 0)) (v:=vi k) (by assumption);have u1:=Bel.keeps b6 (p:=(Z (w.heap.size+1) 1)) (v:=vi a) (by assumption);have u2:=Bel.keeps b6 (p:=(Z (w.heap.size+1) 2)) (v:=vi t) (by assumption);have u3:=Bel.keeps b6 (p:=(Z (w.heap.size+1) 3)) (v:=vi o) (by assumption)))
 all_goals
  go_wp2;go_ret;exact⟨by first|rfl|(simp;done),Hid.out (by assumption)⟩
theorem agb (ba:Option Addr)(bn bcap:Nat)(vals k a t o:Int)(w:World) :
  Calls Tryz.prog 89 #[.agg #[.slice ba bn bcap,vi vals],.agg #[vi k,vi a,vi t,vi o]] w fun e w'=>jh w (jL (bn:Int) vals k a t o) e w':=by
 by_cases h1:k=1
 ·subst h1;cases r:(a == 0)
  ·rw[show jL (bn:Int) vals 1 a t o=false by simp[jL,r]];exact YJ ba bn bcap vals a t o r w
  ·have ha:a=0:=by simpa using r
   subst ha;cases h:(o == 0)
   ·rw[show jL (bn:Int) vals 1 0 t o=false by simp[jL,h]];exact YK ba bn bcap vals t o h w
   ·have ho:o=0:=by simpa using h
    subst ho;rw[show jL (bn:Int) vals 1 0 t 0=jl (bn:Int) t by simp[jL]];exact YL ba bn bcap vals t w
 ·by_cases h2:k=2
  ·subst h2;cases hv:jl vals a
   ·rw[show jL (bn:Int) vals 2 a t o=false by simp[jL,hv]];exact XY ba bn bcap vals a t o hv w
   ·rw[show jL (bn:Int) vals 2 a t o=(jl (bn:Int) t && jl (bn:Int) o) by simp[jL,hv]];exact Xr ba bn bcap vals a t o hv w
  ·by_cases h3:k=3
   ·subst h3;cases hv:jl vals a
    ·rw[show jL (bn:Int) vals 3 a t o=false by simp[jL,hv]];exact aak ba bn bcap vals a t o hv w
    ·cases B:(t == 0)
     ·rw[show jL (bn:Int) vals 3 a t o=false by simp[jL,B]];exact YM ba bn bcap vals a t o hv B w
     ·have ht:t=0:=by simpa using B
      subst ht;cases h:(o == 0)
      ·rw[show jL (bn:Int) vals 3 a 0 o=false by simp[jL,h]];exact YN ba bn bcap vals a o hv h w
      ·have ho:o=0:=by simpa using h
       subst ho;rw[show jL (bn:Int) vals 3 a 0 0=true by simp[jL,hv]];exact YO ba bn bcap vals a hv w
   ·have e1:(k == 1)=false:=by simpa using h1
    have e2:(k == 2)=false:=by simpa using h2
    have e3:(k == 3)=false:=by simpa using h3
    rw[show jL (bn:Int) vals k a t o=false by simp[jL,h1,h2,h3]];exact aes ba bn bcap vals k a t o e1 e2 e3 w
theorem Xt (op d a b:Int)(w:World) :
  Calls Tryz.prog 153 #[.agg #[vi op,vi d,vi a,vi b]] w fun e w'=>e=.returned (.agg #[vi op,vi d,vi a,vi b,vi 0])∧Below w.heap.size w w':=by
 go_enter Tryz.func153,Tryz.ntmps153
 go_wp2
 go_returns
 exact⟨rfl,by repeat (first | exact Below.refl _ _ | apply Below.drew | refine Below.alloc ?_ (by simp <;> omega) _ | refine Below.setCell ?_ (by simp <;> omega) _)⟩
theorem Yt (op d a b n:Int)(e0:(op == 20)=false)(e1:(op == 21)=false)(e2:(op == 22)=false)(e3:(op == 23)=false)(e4:(op == 24)=false)(e5:(op == 25)=false)(h:1≤op)(h1:op≤10)(w:World):Calls Tryz.prog 52 #[.agg #[vi op,vi d,vi a,vi b,vi n]] w fun e w'=>e=.returned (.iface 113 (.agg #[vi op,vi d,vi a,vi b]))∧Below w.heap.size w w':=by
 have hp:=qf op d a b n w;rw[yu e0 e1 e2 e3 e4 e5 h h1] at hp;exact hp
theorem acp (op d a b n:Int)(e0:(op == 20)=false)(e1:(op == 21)=false)(e2:(op == 22)=false)(e3:(op == 23)=false)(e4:(op == 24)=false)(e5:(op == 25)=false)(h:1≤op)(h1:op≤10)(w:World):Calls Tryz.prog 53 #[(.iface 113 (.agg #[vi op,vi d,vi a,vi b]))] w fun e w'=>e=.returned (.tuple #[vi d,.bool true])∧Below w.heap.size w w':=by
 have hp:=qs op d a b n w;rw[yu e0 e1 e2 e3 e4 e5 h h1] at hp;rw[XM,Ql h h1] at hp;exact hp
theorem aa4 (op d a b n:Int)(e0:(op == 20)=false)(e1:(op == 21)=false)(e2:(op == 22)=false)(e3:(op == 23)=false)(e4:(op == 24)=false)(e5:(op == 25)=false)(h:1≤op)(h1:op≤10)(w:World):Calls Tryz.prog 51 #[(.iface 113 (.agg #[vi op,vi d,vi a,vi b]))] w fun e w'=>qp w [a,b] e w':=by
 have hp:=qb op d a b n w;rw[yu e0 e1 e2 e3 e4 e5 h h1] at hp;rw[XP h h1] at hp;exact hp
theorem aal (ba:Option Addr)(bn bcap:Nat)(vals op d a b n:Int)(e0:(op == 20)=false)(e1:(op == 21)=false)(e2:(op == 22)=false)(e3:(op == 23)=false)(e4:(op == 24)=false)(e5:(op == 25)=false)(h:1≤op)(h1:op≤10)(hz:(n == 0)=false)(hz2:((0:Int) == n)=false)(w:World) :
  Calls Tryz.prog 88 #[.agg #[.slice ba bn bcap,vi vals],.agg #[vi op,vi d,vi a,vi b,vi n]] w fun e w'=>jh w false e w':=by
 go_enter Tryz.func88,Tryz.ntmps88
 go_wp2_with fail
 refine(Yt op d a b n e0 e1 e2 e3 e4 e5 h h1 _).mono ?_;rintro e w1 ⟨rfl,b1⟩;obtain⟨r,g0,g1,c0,c1,c2,c3,c4⟩:=k8 b1;clear b1;go_wp2
 go_region_with (go_at_call 153;refine(Xt op d a b _).mono ?_;rintro e w2 ⟨rfl,b2⟩;have t:Hid (Below w.heap.size w w2):=Bel.after (by first | exact r.out.drew | exact r.out) b2;obtain⟨k0,k1,k2,k3,k4,m0,m1⟩:=xm b2 c0 c1 c2 c3 c4 g0 g1)
 all_goals
  go_wp2;go_ret;exact⟨rfl,by assumption⟩
theorem aam (ba:Option Addr)(bn bcap:Nat)(vals op d a b:Int)(e0:(op == 20)=false)(e1:(op == 21)=false)(e2:(op == 22)=false)(e3:(op == 23)=false)(e4:(op == 24)=false)(e5:(op == 25)=false)(h:1≤op)(h1:op≤10)(w:World) :
  Calls Tryz.prog 88 #[.agg #[.slice ba bn bcap,vi vals],.agg #[vi op,vi d,vi a,vi b,vi 0]] w fun e w'=>jh w (jl vals d && List.all [a,b] (jl vals)) e w':=by
 go_enter Tryz.func88,Tryz.ntmps88
 go_wp2_with fail
 refine(Yt op d a b 0 e0 e1 e2 e3 e4 e5 h h1 _).mono ?_;rintro e w1 ⟨rfl,b1⟩;obtain⟨t,g0,g1,c0,c1,c2,c3,c4⟩:=k8 b1;clear b1;go_wp2
 go_region_with (go_at_call 153;refine(Xt op d a b _).mono ?_;rintro e w2 ⟨rfl,b2⟩;have G:Hid (Below w.heap.size w w2):=Bel.after (by first | exact t.out.drew | exact t.out) b2;obtain⟨k0,k1,k2,k3,k4,m0,m1⟩:=xm b2 c0 c1 c2 c3 c4 g0 g1)
 all_goals
  obtain⟨bb,HBB⟩:∃bb,Hid (List.all [a,b] (jl vals)=bb):=⟨_,rfl⟩;go_wp2_with fail
  refine(acp op d a b 0 e0 e1 e2 e3 e4 e5 h h1 _).mono ?_;rintro e w3 ⟨rfl,b3⟩;have B:Hid (Below w.heap.size w w3):=Bel.after (Hid.out (by assumption)) b3;have n0:=Bel.keeps b3 (p:=(Z w.heap.size 0)) (v:=.slice ba bn bcap) (by assumption);have n1:=Bel.keeps b3 (p:=(Z w.heap.size 1)) (v:=vi vals) (by assumption);clear b3;go_wp2_with fail
  refine(qW ba bn bcap vals d _).mono ?_;rintro e w4 ⟨rfl,b4⟩;have r:Hid (Below w.heap.size w w4):=Bel.after B.out b4;have q0:=Bel.keeps b4 n0;have q1:=Bel.keeps b4 n1;clear b4;cases hv:jl vals d
  ·go_wp2;go_ret;exact⟨by simp[hv],r.out⟩
  ·go_wp2
   go_region_with (first | (go_at_call 51;refine(aa4 op d a b 0 e0 e1 e2 e3 e4 e5 h h1 _).mono ?_;rintro e w5 ⟨lv,kb,rfl,hkb,hrow,b5⟩;have H:Hid (Below w.heap.size w w5):=Bel.after (by first | exact r.out.drew | exact r.out) b5;have J:Hid (jV w5 lv [a,b]):=hrow.at;have r0:=Bel.keeps b5 q0;have r1:=Bel.keeps b5 q1;obtain⟨rfl,_⟩:=hrow) | (go_at_call 111;refine(jY ba bn bcap vals _ [a,b] bb HBB.out _ (Hid.out (by assumption))).mono ?_;rintro e w6 ⟨rfl,b6⟩;have I:Hid (Below w.heap.size w w6):=Bel.after (Hid.out (by assumption)) b6))
   all_goals
    go_wp2;go_ret;exact⟨by rw[hv,HBB.out];rfl,Hid.out (by assumption)⟩
theorem zU (d n:Int)(w:World) :
  Calls Tryz.prog 158 #[.agg #[vi d,vi n]] w fun e w'=>e=.returned (.agg #[vi 20,vi d,vi 0,vi 0,vi n])∧Below w.heap.size w w':=by
 go_enter Tryz.func158,Tryz.ntmps158
 go_wp2
 go_returns
 exact⟨rfl,by repeat (first | exact Below.refl _ _ | apply Below.drew | refine Below.alloc ?_ (by simp <;> omega) _ | refine Below.setCell ?_ (by simp <;> omega) _)⟩
theorem JP (d a b n:Int)(w:World):Calls Tryz.prog 52 #[.agg #[vi 20,vi d,vi a,vi b,vi n]] w fun e w'=>e=.returned (.iface 122 (.agg #[vi d,vi n]))∧Below w.heap.size w w':=by
 have hp:=qf 20 d a b n w;simp only[qh,if_true,if_false,Int.reduceEq] at hp;exact hp
theorem aa5 (d a b n:Int)(w:World):Calls Tryz.prog 53 #[(.iface 122 (.agg #[vi d,vi n]))] w fun e w'=>e=.returned (.tuple #[vi d,.bool true])∧Below w.heap.size w w':=by
 have hp:=qs 20 d a b n w;simp only[qh,if_true,if_false,Int.reduceEq] at hp;simp only[XM,kD] at hp;simpa using hp
theorem aan (d a b n:Int)(w:World):Calls Tryz.prog 51 #[(.iface 122 (.agg #[vi d,vi n]))] w fun e w'=>qp w [] e w':=by
 have hp:=qb 20 d a b n w;simp only[qh,if_true,if_false,Int.reduceEq] at hp;simp only[kK] at hp;simpa using hp
theorem YP (ba:Option Addr)(bn bcap:Nat)(vals d a b n:Int)(hz:(a == 0)=false)(hz2:((0:Int) == a)=false)(w:World) :
  Calls Tryz.prog 88 #[.agg #[.slice ba bn bcap,vi vals],.agg #[vi 20,vi d,vi a,vi b,vi n]] w fun e w'=>jh w false e w':=by
 go_enter Tryz.func88,Tryz.ntmps88
 go_wp2_with fail
 refine(JP d a b n _).mono ?_;rintro e w1 ⟨rfl,b1⟩;obtain⟨h,g0,g1,c0,c1,c2,c3,c4⟩:=k8 b1;clear b1;go_wp2
 go_region_with (go_at_call 158;refine(zU d n _).mono ?_;rintro e w2 ⟨rfl,b2⟩;have r:Hid (Below w.heap.size w w2):=Bel.after (by first | exact h.out.drew | exact h.out) b2;obtain⟨k0,k1,k2,k3,k4,m0,m1⟩:=xm b2 c0 c1 c2 c3 c4 g0 g1)
 all_goals
  go_wp2;go_ret;exact⟨rfl,by assumption⟩
theorem YQ (ba:Option Addr)(bn bcap:Nat)(vals d b n:Int)(hz:(b == 0)=false)(hz2:((0:Int) == b)=false)(w:World) :
  Calls Tryz.prog 88 #[.agg #[.slice ba bn bcap,vi vals],.agg #[vi 20,vi d,vi 0,vi b,vi n]] w fun e w'=>jh w false e w':=by
 go_enter Tryz.func88,Tryz.ntmps88
 go_wp2_with fail
 refine(JP d 0 b n _).mono ?_;rintro e w1 ⟨rfl,b1⟩;obtain⟨h,g0,g1,c0,c1,c2,c3,c4⟩:=k8 b1;clear b1;go_wp2
 go_region_with (go_at_call 158;refine(zU d n _).mono ?_;rintro e w2 ⟨rfl,b2⟩;have r:Hid (Below w.heap.size w w2):=Bel.after (by first | exact h.out.drew | exact h.out) b2;obtain⟨k0,k1,k2,k3,k4,m0,m1⟩:=xm b2 c0 c1 c2 c3 c4 g0 g1)
 all_goals
  go_wp2;go_ret;exact⟨rfl,by assumption⟩
theorem YR (ba:Option Addr)(bn bcap:Nat)(vals d n:Int)(w:World) :
  Calls Tryz.prog 88 #[.agg #[.slice ba bn bcap,vi vals],.agg #[vi 20,vi d,vi 0,vi 0,vi n]] w fun e w'=>jh w (jl vals d && List.all [] (jl vals)) e w':=by
 go_enter Tryz.func88,Tryz.ntmps88
 go_wp2_with fail
 refine(JP d 0 0 n _).mono ?_;rintro e w1 ⟨rfl,b1⟩;obtain⟨r,g0,g1,c0,c1,c2,c3,c4⟩:=k8 b1;clear b1;go_wp2
 go_region_with (go_at_call 158;refine(zU d n _).mono ?_;rintro e w2 ⟨rfl,b2⟩;have B:Hid (Below w.heap.size w w2):=Bel.after (by first | exact r.out.drew | exact r.out) b2;obtain⟨k0,k1,k2,k3,k4,m0,m1⟩:=xm b2 c0 c1 c2 c3 c4 g0 g1)
 all_goals
  obtain⟨bb,HBB⟩:∃bb,Hid (List.all [] (jl vals)=bb):=⟨_,rfl⟩;go_wp2_with fail
  refine(aa5 d 0 0 n _).mono ?_;rintro e w3 ⟨rfl,b3⟩;have t:Hid (Below w.heap.size w w3):=Bel.after (Hid.out (by assumption)) b3;have n0:=Bel.keeps b3 (p:=(Z w.heap.size 0)) (v:=.slice ba bn bcap) (by assumption);have n1:=Bel.keeps b3 (p:=(Z w.heap.size 1)) (v:=vi vals) (by assumption);clear b3;go_wp2_with fail
  refine(qW ba bn bcap vals d _).mono ?_;rintro e w4 ⟨rfl,b4⟩;have h:Hid (Below w.heap.size w w4):=Bel.after t.out b4;have q0:=Bel.keeps b4 n0;have q1:=Bel.keeps b4 n1;clear b4;cases hv:jl vals d
  ·go_wp2;go_ret;exact⟨by simp[hv],h.out⟩
  ·go_wp2
   go_region_with (first | (go_at_call 51;refine(aan d 0 0 n _).mono ?_;rintro e w5 ⟨lv,kb,rfl,hkb,hrow,b5⟩;have G:Hid (Below w.heap.size w w5):=Bel.after (by first | exact h.out.drew | exact h.out) b5;have I:Hid (jV w5 lv []):=hrow.at;have r0:=Bel.keeps b5 q0;have r1:=Bel.keeps b5 q1;obtain⟨rfl,_⟩:=hrow) | (go_at_call 111;refine(jY ba bn bcap vals _ [] bb HBB.out _ (Hid.out (by assumption))).mono ?_;rintro e w6 ⟨rfl,b6⟩;have H:Hid (Below w.heap.size w w6):=Bel.after (Hid.out (by assumption)) b6))
   all_goals
    go_wp2;go_ret;exact⟨by rw[hv,HBB.out];rfl,Hid.out (by assumption)⟩
theorem yZ (d:Int)(w:World) :
  Calls Tryz.prog 159 #[.agg #[vi d]] w fun e w'=>e=.returned (.agg #[vi 24,vi d,vi 0,vi 0,vi 0])∧Below w.heap.size w w':=by
 go_enter Tryz.func159,Tryz.ntmps159
 go_wp2
 go_returns
 exact⟨rfl,by repeat (first | exact Below.refl _ _ | apply Below.drew | refine Below.alloc ?_ (by simp <;> omega) _ | refine Below.setCell ?_ (by simp <;> omega) _)⟩
theorem zL (d a b n:Int)(w:World):Calls Tryz.prog 52 #[.agg #[vi 24,vi d,vi a,vi b,vi n]] w fun e w'=>e=.returned (.iface 124 (.agg #[vi d]))∧Below w.heap.size w w':=by
 have hp:=qf 24 d a b n w;simp only[qh,if_true,if_false,Int.reduceEq] at hp;exact hp
theorem acq (d a b n:Int)(w:World):Calls Tryz.prog 53 #[(.iface 124 (.agg #[vi d]))] w fun e w'=>e=.returned (.tuple #[vi d,.bool true])∧Below w.heap.size w w':=by
 have hp:=qs 24 d a b n w;simp only[qh,if_true,if_false,Int.reduceEq] at hp;simp only[XM,kD] at hp;simpa using hp
theorem aa6 (d a b n:Int)(w:World):Calls Tryz.prog 51 #[(.iface 124 (.agg #[vi d]))] w fun e w'=>qp w [] e w':=by
 have hp:=qb 24 d a b n w;simp only[qh,if_true,if_false,Int.reduceEq] at hp;simp only[kK] at hp;simpa using hp
theorem aao (ba:Option Addr)(bn bcap:Nat)(vals d a b n:Int)(hz:(a == 0)=false)(hz2:((0:Int) == a)=false)(w:World) :
  Calls Tryz.prog 88 #[.agg #[.slice ba bn bcap,vi vals],.agg #[vi 24,vi d,vi a,vi b,vi n]] w fun e w'=>jh w false e w':=by
 go_enter Tryz.func88,Tryz.ntmps88
 go_wp2_with fail
 refine(zL d a b n _).mono ?_;rintro e w1 ⟨rfl,b1⟩;obtain⟨h,g0,g1,c0,c1,c2,c3,c4⟩:=k8 b1;clear b1;go_wp2
 go_region_with (go_at_call 159;refine(yZ d _).mono ?_;rintro e w2 ⟨rfl,b2⟩;have r:Hid (Below w.heap.size w w2):=Bel.after (by first | exact h.out.drew | exact h.out) b2;obtain⟨k0,k1,k2,k3,k4,m0,m1⟩:=xm b2 c0 c1 c2 c3 c4 g0 g1)
 all_goals
  go_wp2;go_ret;exact⟨rfl,by assumption⟩
theorem aap (ba:Option Addr)(bn bcap:Nat)(vals d b n:Int)(hz:(b == 0)=false)(hz2:((0:Int) == b)=false)(w:World) :
  Calls Tryz.prog 88 #[.agg #[.slice ba bn bcap,vi vals],.agg #[vi 24,vi d,vi 0,vi b,vi n]] w fun e w'=>jh w false e w':=by
 go_enter Tryz.func88,Tryz.ntmps88
 go_wp2_with fail
 refine(zL d 0 b n _).mono ?_;rintro e w1 ⟨rfl,b1⟩;obtain⟨h,g0,g1,c0,c1,c2,c3,c4⟩:=k8 b1;clear b1;go_wp2
 go_region_with (go_at_call 159;refine(yZ d _).mono ?_;rintro e w2 ⟨rfl,b2⟩;have r:Hid (Below w.heap.size w w2):=Bel.after (by first | exact h.out.drew | exact h.out) b2;obtain⟨k0,k1,k2,k3,k4,m0,m1⟩:=xm b2 c0 c1 c2 c3 c4 g0 g1)
 all_goals
  go_wp2;go_ret;exact⟨rfl,by assumption⟩
theorem aaq (ba:Option Addr)(bn bcap:Nat)(vals d n:Int)(hz:(n == 0)=false)(hz2:((0:Int) == n)=false)(w:World) :
  Calls Tryz.prog 88 #[.agg #[.slice ba bn bcap,vi vals],.agg #[vi 24,vi d,vi 0,vi 0,vi n]] w fun e w'=>jh w false e w':=by
 go_enter Tryz.func88,Tryz.ntmps88
 go_wp2_with fail
 refine(zL d 0 0 n _).mono ?_;rintro e w1 ⟨rfl,b1⟩;obtain⟨h,g0,g1,c0,c1,c2,c3,c4⟩:=k8 b1;clear b1;go_wp2
 go_region_with (go_at_call 159;refine(yZ d _).mono ?_;rintro e w2 ⟨rfl,b2⟩;have r:Hid (Below w.heap.size w w2):=Bel.after (by first | exact h.out.drew | exact h.out) b2;obtain⟨k0,k1,k2,k3,k4,m0,m1⟩:=xm b2 c0 c1 c2 c3 c4 g0 g1)
 all_goals
  go_wp2;go_ret;exact⟨rfl,by assumption⟩
theorem aar (ba:Option Addr)(bn bcap:Nat)(vals d:Int)(w:World) :
  Calls Tryz.prog 88 #[.agg #[.slice ba bn bcap,vi vals],.agg #[vi 24,vi d,vi 0,vi 0,vi 0]] w fun e w'=>jh w (jl vals d && List.all [] (jl vals)) e w':=by
 go_enter Tryz.func88,Tryz.ntmps88
 go_wp2_with fail
 refine(zL d 0 0 0 _).mono ?_;rintro e w1 ⟨rfl,b1⟩;obtain⟨r,g0,g1,c0,c1,c2,c3,c4⟩:=k8 b1;clear b1;go_wp2
 go_region_with (go_at_call 159;refine(yZ d _).mono ?_;rintro e w2 ⟨rfl,b2⟩;have B:Hid (Below w.heap.size w w2):=Bel.after (by first | exact r.out.drew | exact r.out) b2;obtain⟨k0,k1,k2,k3,k4,m0,m1⟩:=xm b2 c0 c1 c2 c3 c4 g0 g1)
 all_goals
  obtain⟨bb,HBB⟩:∃bb,Hid (List.all [] (jl vals)=bb):=⟨_,rfl⟩;go_wp2_with fail
  refine(acq d 0 0 0 _).mono ?_;rintro e w3 ⟨rfl,b3⟩;have t:Hid (Below w.heap.size w w3):=Bel.after (Hid.out (by assumption)) b3;have n0:=Bel.keeps b3 (p:=(Z w.heap.size 0)) (v:=.slice ba bn bcap) (by assumption);have n1:=Bel.keeps b3 (p:=(Z w.heap.size 1)) (v:=vi vals) (by assumption);clear b3;go_wp2_with fail
  refine(qW ba bn bcap vals d _).mono ?_;rintro e w4 ⟨rfl,b4⟩;have h:Hid (Below w.heap.size w w4):=Bel.after t.out b4;have q0:=Bel.keeps b4 n0;have q1:=Bel.keeps b4 n1;clear b4;cases hv:jl vals d
  ·go_wp2;go_ret;exact⟨by simp[hv],h.out⟩
  ·go_wp2
   go_region_with (first | (go_at_call 51;refine(aa6 d 0 0 0 _).mono ?_;rintro e w5 ⟨lv,kb,rfl,hkb,hrow,b5⟩;have G:Hid (Below w.heap.size w w5):=Bel.after (by first | exact h.out.drew | exact h.out) b5;have I:Hid (jV w5 lv []):=hrow.at;have r0:=Bel.keeps b5 q0;have r1:=Bel.keeps b5 q1;obtain⟨rfl,_⟩:=hrow) | (go_at_call 111;refine(jY ba bn bcap vals _ [] bb HBB.out _ (Hid.out (by assumption))).mono ?_;rintro e w6 ⟨rfl,b6⟩;have H:Hid (Below w.heap.size w w6):=Bel.after (Hid.out (by assumption)) b6))
   all_goals
    go_wp2;go_ret;exact⟨by rw[hv,HBB.out];rfl,Hid.out (by assumption)⟩
end Go.Proofs.YtkbhbekfniadhaaGreat
