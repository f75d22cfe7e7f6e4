/- The shape of a program, part 1: values, blocks, places and ends: the model and the program answer alike. The shape of a program, part 2: the places and ends, as the model looks at them. The shape of a program, part 5: the phis, as the model looks at them. What it is to be of the right shape. The way between blocks, as mathematics: who follows, who comes ahead. Whether a block follows another one, and the list of those that follow: the program's goesTo and what Succs gathers. Values within bounds, by their list's answer. -/
import Derived.Test.YtkbhbekfniadhaaGreatKIns
import Derived.Handy
import Derived.Deep.RegionWith
import Derived.BigRegion
import Derived.Deep.QuietTactic
import Derived.BigQuiet
import Derived.Test.YtkbhbekfniadhaaGreatKTo
import Derived.Maps.AppendAt
set_option maxHeartbeats 4000000
namespace Go.Proofs.YtkbhbekfniadhaaGreat
open Go.ChangeShapes Go.WideShapes Go.ChangeAt Go.RowKit Go.Shelf
set_option linter.unusedVariables false
def jl (n v:Int):Bool:=decide (0≤v) && decide (v<n)
theorem aab {n v:Int}(h:0≤v)(h1:v<n):jl n v=true:=by simp[jl,h,h1]
theorem acg {n v:Int}(h:¬0≤v):jl n v=false:=by simp[jl,h]
theorem ach {n v:Int}(h:¬v<n):jl n v=false:=by simp[jl,h]
theorem Kt {n v:Int}:jl n v=true↔0≤v∧v<n:=by simp[jl]
def jh (w:World)(b:Bool)(e:Ending)(w':World):Prop:=e=.returned (.bool b)∧Below w.heap.size w w'
theorem js (v n:Int)(w:World) :
  Calls Tryz.prog 94 #[vi v,vi n] w fun e w'=>e=.returned (.bool (jl n v))∧w'=w:=by
 by_cases h:0≤v
 ·by_cases h1:v<n
  ·rw[aab h h1];go_enter Tryz.func94,Tryz.ntmps94
   go_wp2;go_ret;exact⟨rfl,rfl⟩
  ·rw[ach h1];go_enter Tryz.func94,Tryz.ntmps94
   go_wp2;go_ret;exact⟨rfl,rfl⟩
 ·rw[acg h];go_enter Tryz.func94,Tryz.ntmps94
  go_wp2;go_ret;exact⟨rfl,rfl⟩
theorem aci (v lo hi:Int)(w:World) :
  Calls Tryz.prog 49 #[vi v,vi lo,vi hi] w fun e w'=>e=.returned (.bool (decide (lo≤v) && decide (v≤hi)))∧w'=w:=by
 by_cases h:lo≤v
 ·by_cases h1:v≤hi
  ·rw[show(decide (lo≤v) && decide (v≤hi))=true by simp[h,h1]];go_enter Tryz.func49,Tryz.ntmps49
   go_wp2;go_ret;exact⟨rfl,rfl⟩
  ·rw[show(decide (lo≤v) && decide (v≤hi))=false by simp[h1]];go_enter Tryz.func49,Tryz.ntmps49
   go_wp2;go_ret;exact⟨rfl,rfl⟩
 ·rw[show(decide (lo≤v) && decide (v≤hi))=false by simp[h]];go_enter Tryz.func49,Tryz.ntmps49
  go_wp2;go_ret;exact⟨rfl,rfl⟩
theorem xh (v n:Int)(w:World) :
  Calls Tryz.prog 49 #[vi v,vi 0,vi (n-1)] w fun e w'=>e=.returned (.bool (jl n v))∧w'=w:=by
 have e1:jl n v=(decide (0≤v) && decide (v≤n-1)):=by
  simp only[jl]
  congr 1
  simp only[decide_eq_decide];omega
 rw[e1];exact aci v 0 (n-1) w
theorem qW (ba:Option Addr)(bn bcap:Nat)(vals v:Int)(w:World) :
  Calls Tryz.prog 59 #[.agg #[.slice ba bn bcap,vi vals],vi v] w fun e w'=>jh w (jl vals v) e w':=by
 by_cases h:0≤v
 ·by_cases h1:v<vals
  ·rw[aab h h1];go_enter Tryz.func59,Tryz.ntmps59
   go_wp2;go_ret;exact⟨rfl,Bel.alloc _ _⟩
  ·rw[ach h1];go_enter Tryz.func59,Tryz.ntmps59
   go_wp2;go_ret;exact⟨rfl,Bel.alloc _ _⟩
 ·rw[acg h];go_enter Tryz.func59,Tryz.ntmps59
  go_wp2;go_ret;exact⟨rfl,Bel.alloc _ _⟩
theorem zk (ba:Option Addr)(bn bcap:Nat)(vals v:Int)(w:World) :
  Calls Tryz.prog 43 #[.agg #[.slice ba bn bcap,vi vals],vi v] w fun e w'=>jh w (jl (bn:Int) v) e w':=by
 by_cases h:0≤v
 ·by_cases h1:v<(bn:Int)
  ·rw[aab h h1];go_enter Tryz.func43,Tryz.ntmps43
   go_wp2;go_ret;exact⟨rfl,Bel.alloc _ _⟩
  ·rw[ach h1];go_enter Tryz.func43,Tryz.ntmps43
   go_wp2;go_ret;exact⟨rfl,Bel.alloc _ _⟩
 ·rw[acg h];go_enter Tryz.func43,Tryz.ntmps43
  go_wp2;go_ret;exact⟨rfl,Bel.alloc _ _⟩
theorem acj {l:List Int}{p:Int→Bool}{k:Nat}(hk:k<l.length)(h:(l.take k).all p=true)(hx:p (l.getD k 0)=true):(l.take (k+1)).all p=true:=by
 rw[ZE hk,List.all_append,h];simp only[List.all_cons,List.all_nil,hx,Bool.and_self]
theorem ahN {l:List Int}{p:Int→Bool}{k:Nat}(hk:k<l.length)(hx:p (l.getD k 0)=false):l.all p=false:=by
 rw[List.all_eq_false];refine⟨l.getD k 0,?_,by rw[hx];decide⟩;rw[List.getD_eq_getElem?_getD,List.getElem?_eq_getElem hk];exact List.getElem_mem hk
theorem adw (ba:Option Addr)(bn bcap:Nat)(vals:Int)(v:Value)(l:List Int)(w:World)(hl:jV w v l) :
  Calls Tryz.prog 111 #[.agg #[.slice ba bn bcap,vi vals],v] w fun e w'=>jh w (l.all (jl vals)) e w':=by
 obtain⟨a,cap,rfl,hm,hc⟩:=hl;obtain⟨n,HN⟩:∃n,Hid (l.length=n):=⟨_,rfl⟩;rw[HN.out] at hm hc ⊢;have HC:Hid (0<n→∃b off,a=some (Z b off)∧∀i,i<n→w.cell? (Z b (off+i))=some (vi (l.getD i 0))):=hc;clear hc;go_enter Tryz.func111,Tryz.ntmps111
 go_wp2;go_loopw [9] (fun i wr=>∃k:Nat,k≤n∧i=vi k∧(l.take k).all (jl vals)=true∧Below (w.alloc (.cells #[.slice ba bn bcap,vi vals] 26)).heap.size (w.alloc (.cells #[.slice ba bn bcap,vi vals] 26)) wr) (fun i _=>n-(intOf i).toNat)
 case atStart=>exact⟨0,Nat.zero_le _,rfl,by simp,Below.refl _ _⟩
 case round=>
  obtain⟨k,hk,rfl,htk,hb3⟩:=hrel;have HT:Hid ((l.take k).all (jl vals)=true):=htk;have H0:Hid (Below (w.alloc (.cells #[.slice ba bn bcap,vi vals] 26)).heap.size (w.alloc (.cells #[.slice ba bn bcap,vi vals] 26)) wr):=hb3;have H1:Hid (Below w.heap.size w wr):=Bel.after (Bel.alloc w _) hb3;have g0:=zB hb3 0;have g1:=zB hb3 1;simp at g0 g1;clear htk hb3;by_cases B:(k:Int)<(n:Int)
  ·obtain⟨b,off,rfl,hc1⟩:=HC.out (by omega);obtain⟨x,HX⟩:∃x,Hid (l.getD k 0=x):=⟨_,rfl⟩;have q1:=Bel.keeps H1.out (hc1 k (by omega));rw[HX.out] at q1;clear hc1;go_wp2_with fail
   refine(qW ba bn bcap vals x _).mono ?_;rintro e w1 ⟨rfl,b1⟩;have B1:Hid (Below wr.heap.size wr w1):=b1;clear b1;cases hv:jl vals x
   ·go_wp2;go_ret;exact⟨by rw[ahN (l:=l) (k:=k) (by have:=HN.out;omega) (by rw[HX.out];exact hv)];rfl,Bel.after H1.out B1.out⟩
   ·go_wp2;go_roundw
    case rel=>exact⟨k+1,by omega,by go_num,acj (by have:=HN.out;omega) HT.out (by rw[HX.out];exact hv),Bel.after H0.out B1.out⟩
    case measure=>simp[intOf];omega
  ·have t:k=n:=by omega
   have r:l.all (jl vals)=true:=by
    have h:=HT.out;rw[List.take_of_length_le (by have:=HN.out;omega)] at h;exact h
   have HA:Hid (l.all (jl vals)=true):=r;clear t r;go_wp2;go_ret;exact⟨by rw[HA.out];rfl,H1.out⟩
end Go.Proofs.YtkbhbekfniadhaaGreat
namespace Go.Proofs.YtkbhbekfniadhaaGreat
open Go.ChangeShapes Go.WideShapes Go.ChangeAt Go.RowKit Go.Shelf
set_option linter.unusedVariables false
def jO (vals op d a b n:Int):Bool :=
 if 1≤op∧op≤10 then jl vals d && jl vals a && jl vals b && (n == 0)
 else if op=20 then jl vals d && (a == 0) && (b == 0)
 else if op=21∨op=25 then jl vals d && jl vals a && (b == 0) && (n == 0)
 else if op=22 then jl vals a && jl vals b && (d == 0) && (n == 0)
 else if op=23 then jl vals a && (d == 0) && (b == 0) && (n == 0)
 else if op=24 then jl vals d && (a == 0) && (b == 0) && (n == 0)
 else false
theorem Qt {vals op d a b n:Int}(h:1≤op)(h1:op≤10):jO vals op d a b n=(jl vals d && jl vals a && jl vals b && (n == 0)):=by simp[jO,h,h1]
theorem JG {vals op d a b n:Int}(e0:(op == 20)=false)(e1:(op == 21)=false)(e2:(op == 22)=false)(e3:(op == 23)=false)(e4:(op == 24)=false)(e5:(op == 25)=false)(h:¬(1≤op∧op≤10)):jO vals op d a b n=false:=by
 simp only[beq_eq_false_iff_ne,ne_eq] at e0 e1 e2 e3 e4 e5;simp only[jO,e0,e1,e2,e3,e4,e5,h,or_self,if_false]
theorem zG {vals d a b n:Int}:jO vals 20 d a b n=(jl vals d && (a == 0) && (b == 0)):=by simp[jO]
theorem JH {vals d a b n:Int}:jO vals 21 d a b n=(jl vals d && jl vals a && (b == 0) && (n == 0)):=by simp[jO]
theorem JI {vals d a b n:Int}:jO vals 25 d a b n=(jl vals d && jl vals a && (b == 0) && (n == 0)):=by simp[jO]
theorem zH {vals d a b n:Int}:jO vals 22 d a b n=(jl vals a && jl vals b && (d == 0) && (n == 0)):=by simp[jO]
theorem Jg {vals d a b n:Int}:jO vals 23 d a b n=(jl vals a && (d == 0) && (b == 0) && (n == 0)):=by simp[jO]
theorem zl {vals d a b n:Int}:jO vals 24 d a b n=(jl vals d && (a == 0) && (b == 0) && (n == 0)):=by simp[jO]
def jL (blocks vals k a t e:Int):Bool :=
 if k=1 then jl blocks t && (a == 0) && (e == 0)
 else if k=2 then jl blocks t && jl blocks e && jl vals a
 else if k=3 then jl vals a && (t == 0) && (e == 0)
 else false
theorem aen (vals d a b n:Int)(w:World) :
  Calls Tryz.prog 75 #[.agg #[vi 20,vi d,vi a,vi b,vi n],vi vals] w fun e w'=>jh w (jO vals 20 d a b n) e w':=by
 have hw:xq 20=false:=by decide
 rw[zG];go_enter Tryz.func75,Tryz.ntmps75
 go_wp2_with fail
 refine(js d vals _).mono ?_;rintro e w1 ⟨rfl,rfl⟩;go_wp2_with fail
 refine(js a vals _).mono ?_;rintro e w2 ⟨rfl,rfl⟩;go_wp2_with fail
 refine(js b vals _).mono ?_;rintro e w3 ⟨rfl,rfl⟩;go_wp2_with fail
 refine(qS 20 _).mono ?_;rintro e w4 ⟨rfl,rfl⟩;try rw[hw]
 cases h0:jl vals d
 ·(go_wp2;go_ret;exact⟨by simp only[h0,Bool.false_and];rfl,Bel.alloc _ _⟩)
 ·cases h1:(a == 0)
  ·(go_wp2;go_ret;exact⟨by simp only[h0,h1,Bool.true_and,Bool.false_and];rfl,Bel.alloc _ _⟩)
  ·cases h2:(b == 0)
   ·(go_wp2;go_ret;exact⟨by simp only[h0,h1,h2,Bool.true_and];rfl,Bel.alloc _ _⟩)
   ·(go_wp2;go_ret;exact⟨by simp only[h0,h1,h2,Bool.true_and];rfl,Bel.alloc _ _⟩)
theorem af6 (vals d a b n:Int)(w:World) :
  Calls Tryz.prog 75 #[.agg #[vi 21,vi d,vi a,vi b,vi n],vi vals] w fun e w'=>jh w (jO vals 21 d a b n) e w':=by
 have hw:xq 21=false:=by decide
 rw[JH];go_enter Tryz.func75,Tryz.ntmps75
 go_wp2_with fail
 refine(js d vals _).mono ?_;rintro e w1 ⟨rfl,rfl⟩;go_wp2_with fail
 refine(js a vals _).mono ?_;rintro e w2 ⟨rfl,rfl⟩;go_wp2_with fail
 refine(js b vals _).mono ?_;rintro e w3 ⟨rfl,rfl⟩;go_wp2_with fail
 refine(qS 21 _).mono ?_;rintro e w4 ⟨rfl,rfl⟩;try rw[hw]
 cases h0:jl vals d
 ·(go_wp2;go_ret;exact⟨by simp only[h0,Bool.false_and];rfl,Bel.alloc _ _⟩)
 ·cases h1:jl vals a
  ·(go_wp2;go_ret;exact⟨by simp only[h0,h1,Bool.true_and,Bool.false_and];rfl,Bel.alloc _ _⟩)
  ·cases h2:(b == 0)
   ·(go_wp2;go_ret;exact⟨by simp only[h0,h1,h2,Bool.true_and,Bool.false_and];rfl,Bel.alloc _ _⟩)
   ·cases h3:(n == 0)
    ·(go_wp2;go_ret;exact⟨by simp only[h0,h1,h2,h3,Bool.true_and];rfl,Bel.alloc _ _⟩)
    ·(go_wp2;go_ret;exact⟨by simp only[h0,h1,h2,h3,Bool.true_and];rfl,Bel.alloc _ _⟩)
theorem aeo (vals d a b n:Int)(w:World) :
  Calls Tryz.prog 75 #[.agg #[vi 22,vi d,vi a,vi b,vi n],vi vals] w fun e w'=>jh w (jO vals 22 d a b n) e w':=by
 have hw:xq 22=false:=by decide
 rw[zH];go_enter Tryz.func75,Tryz.ntmps75
 go_wp2_with fail
 refine(js d vals _).mono ?_;rintro e w1 ⟨rfl,rfl⟩;go_wp2_with fail
 refine(js a vals _).mono ?_;rintro e w2 ⟨rfl,rfl⟩;go_wp2_with fail
 refine(js b vals _).mono ?_;rintro e w3 ⟨rfl,rfl⟩;go_wp2_with fail
 refine(qS 22 _).mono ?_;rintro e w4 ⟨rfl,rfl⟩;try rw[hw]
 cases h0:jl vals a
 ·(go_wp2;go_ret;exact⟨by simp only[h0,Bool.false_and];rfl,Bel.alloc _ _⟩)
 ·cases h1:jl vals b
  ·(go_wp2;go_ret;exact⟨by simp only[h0,h1,Bool.true_and,Bool.false_and];rfl,Bel.alloc _ _⟩)
  ·cases h2:(d == 0)
   ·(go_wp2;go_ret;exact⟨by simp only[h0,h1,h2,Bool.true_and,Bool.false_and];rfl,Bel.alloc _ _⟩)
   ·cases h3:(n == 0)
    ·(go_wp2;go_ret;exact⟨by simp only[h0,h1,h2,h3,Bool.true_and];rfl,Bel.alloc _ _⟩)
    ·(go_wp2;go_ret;exact⟨by simp only[h0,h1,h2,h3,Bool.true_and];rfl,Bel.alloc _ _⟩)
theorem ahO (vals d a b n:Int)(w:World) :
  Calls Tryz.prog 75 #[.agg #[vi 23,vi d,vi a,vi b,vi n],vi vals] w fun e w'=>jh w (jO vals 23 d a b n) e w':=by
 have hw:xq 23=false:=by decide
 rw[Jg];go_enter Tryz.func75,Tryz.ntmps75
 go_wp2_with fail
 refine(js d vals _).mono ?_;rintro e w1 ⟨rfl,rfl⟩;go_wp2_with fail
 refine(js a vals _).mono ?_;rintro e w2 ⟨rfl,rfl⟩;go_wp2_with fail
 refine(js b vals _).mono ?_;rintro e w3 ⟨rfl,rfl⟩;go_wp2_with fail
 refine(qS 23 _).mono ?_;rintro e w4 ⟨rfl,rfl⟩;try rw[hw]
 cases h0:jl vals a
 ·(go_wp2;go_ret;exact⟨by simp only[h0,Bool.false_and];rfl,Bel.alloc _ _⟩)
 ·cases h1:(d == 0)
  ·(go_wp2;go_ret;exact⟨by simp only[h0,h1,Bool.true_and,Bool.false_and];rfl,Bel.alloc _ _⟩)
  ·cases h2:(b == 0)
   ·(go_wp2;go_ret;exact⟨by simp only[h0,h1,h2,Bool.true_and,Bool.false_and];rfl,Bel.alloc _ _⟩)
   ·cases h3:(n == 0)
    ·(go_wp2;go_ret;exact⟨by simp only[h0,h1,h2,h3,Bool.true_and];rfl,Bel.alloc _ _⟩)
    ·(go_wp2;go_ret;exact⟨by simp only[h0,h1,h2,h3,Bool.true_and];rfl,Bel.alloc _ _⟩)
theorem af7 (vals d a b n:Int)(w:World) :
  Calls Tryz.prog 75 #[.agg #[vi 24,vi d,vi a,vi b,vi n],vi vals] w fun e w'=>jh w (jO vals 24 d a b n) e w':=by
 have hw:xq 24=false:=by decide
 rw[zl];go_enter Tryz.func75,Tryz.ntmps75
 go_wp2_with fail
 refine(js d vals _).mono ?_;rintro e w1 ⟨rfl,rfl⟩;go_wp2_with fail
 refine(js a vals _).mono ?_;rintro e w2 ⟨rfl,rfl⟩;go_wp2_with fail
 refine(js b vals _).mono ?_;rintro e w3 ⟨rfl,rfl⟩;go_wp2_with fail
 refine(qS 24 _).mono ?_;rintro e w4 ⟨rfl,rfl⟩;try rw[hw]
 cases h0:jl vals d
 ·(go_wp2;go_ret;exact⟨by simp only[h0,Bool.false_and];rfl,Bel.alloc _ _⟩)
 ·cases h1:(a == 0)
  ·(go_wp2;go_ret;exact⟨by simp only[h0,h1,Bool.true_and,Bool.false_and];rfl,Bel.alloc _ _⟩)
  ·cases h2:(b == 0)
   ·(go_wp2;go_ret;exact⟨by simp only[h0,h1,h2,Bool.true_and,Bool.false_and];rfl,Bel.alloc _ _⟩)
   ·cases h3:(n == 0)
    ·(go_wp2;go_ret;exact⟨by simp only[h0,h1,h2,h3,Bool.true_and];rfl,Bel.alloc _ _⟩)
    ·(go_wp2;go_ret;exact⟨by simp only[h0,h1,h2,h3,Bool.true_and];rfl,Bel.alloc _ _⟩)
theorem af8 (vals d a b n:Int)(w:World) :
  Calls Tryz.prog 75 #[.agg #[vi 25,vi d,vi a,vi b,vi n],vi vals] w fun e w'=>jh w (jO vals 25 d a b n) e w':=by
 have hw:xq 25=false:=by decide
 rw[JI];go_enter Tryz.func75,Tryz.ntmps75
 go_wp2_with fail
 refine(js d vals _).mono ?_;rintro e w1 ⟨rfl,rfl⟩;go_wp2_with fail
 refine(js a vals _).mono ?_;rintro e w2 ⟨rfl,rfl⟩;go_wp2_with fail
 refine(js b vals _).mono ?_;rintro e w3 ⟨rfl,rfl⟩;go_wp2_with fail
 refine(qS 25 _).mono ?_;rintro e w4 ⟨rfl,rfl⟩;try rw[hw]
 cases h0:jl vals d
 ·(go_wp2;go_ret;exact⟨by simp only[h0,Bool.false_and];rfl,Bel.alloc _ _⟩)
 ·cases h1:jl vals a
  ·(go_wp2;go_ret;exact⟨by simp only[h0,h1,Bool.true_and,Bool.false_and];rfl,Bel.alloc _ _⟩)
  ·cases h2:(b == 0)
   ·(go_wp2;go_ret;exact⟨by simp only[h0,h1,h2,Bool.true_and,Bool.false_and];rfl,Bel.alloc _ _⟩)
   ·cases h3:(n == 0)
    ·(go_wp2;go_ret;exact⟨by simp only[h0,h1,h2,h3,Bool.true_and];rfl,Bel.alloc _ _⟩)
    ·(go_wp2;go_ret;exact⟨by simp only[h0,h1,h2,h3,Bool.true_and];rfl,Bel.alloc _ _⟩)
theorem af9 (vals op d a b n:Int)(h:1≤op)(h1:op≤10)(w:World) :
  Calls Tryz.prog 75 #[.agg #[vi op,vi d,vi a,vi b,vi n],vi vals] w fun e w'=>jh w (jO vals op d a b n) e w':=by
 have hw:xq op=true:=Qk h h1;rw[Qt h h1];go_enter Tryz.func75,Tryz.ntmps75
 go_wp2_with fail
 refine(js d vals _).mono ?_;rintro e w1 ⟨rfl,rfl⟩;go_wp2_with fail
 refine(js a vals _).mono ?_;rintro e w2 ⟨rfl,rfl⟩;go_wp2_with fail
 refine(js b vals _).mono ?_;rintro e w3 ⟨rfl,rfl⟩;go_wp2_with fail
 refine(qS op _).mono ?_;rintro e w4 ⟨rfl,rfl⟩;try rw[hw]
 cases h0:jl vals d
 ·(go_wp2;go_ret;exact⟨by simp only[h0,Bool.false_and];rfl,Bel.alloc _ _⟩)
 ·cases h1:jl vals a
  ·(go_wp2;go_ret;exact⟨by simp only[h0,h1,Bool.true_and,Bool.false_and];rfl,Bel.alloc _ _⟩)
  ·cases h2:jl vals b
   ·(go_wp2;go_ret;exact⟨by simp only[h0,h1,h2,Bool.true_and,Bool.false_and];rfl,Bel.alloc _ _⟩)
   ·cases h3:(n == 0)
    ·(go_wp2;go_ret;exact⟨by simp only[h0,h1,h2,h3,Bool.true_and];rfl,Bel.alloc _ _⟩)
    ·(go_wp2;go_ret;exact⟨by simp only[h0,h1,h2,h3,Bool.true_and];rfl,Bel.alloc _ _⟩)
theorem afa (vals op d a b n:Int)(e0:(op == 20)=false)(e1:(op == 21)=false)(e2:(op == 22)=false)(e3:(op == 23)=false)(e4:(op == 24)=false)(e5:(op == 25)=false)(hw:xq op=false)(w:World) :
  Calls Tryz.prog 75 #[.agg #[vi op,vi d,vi a,vi b,vi n],vi vals] w fun e w'=>jh w false e w':=by
 go_enter Tryz.func75,Tryz.ntmps75
 go_wp2_with fail
 refine(js d vals _).mono ?_;rintro e w1 ⟨rfl,rfl⟩;go_wp2_with fail
 refine(js a vals _).mono ?_;rintro e w2 ⟨rfl,rfl⟩;go_wp2_with fail
 refine(js b vals _).mono ?_;rintro e w3 ⟨rfl,rfl⟩;go_wp2_with fail
 refine(qS op _).mono ?_;rintro e w4 ⟨rfl,rfl⟩;try rw[hw]
 (go_wp2;go_ret;exact⟨rfl,Bel.alloc _ _⟩)
theorem ahP (vals op d a b n:Int)(w:World) :
  Calls Tryz.prog 75 #[.agg #[vi op,vi d,vi a,vi b,vi n],vi vals] w fun e w'=>jh w (jO vals op d a b n) e w':=by
 rcases Jz op with h | h | h | h | h | h | ⟨⟨e0,e1,e2,e3,e4,e5⟩,⟨h,h1⟩ | h | ⟨h1,h⟩⟩
 ·subst h;exact aen vals d a b n w
 ·subst h;exact af6 vals d a b n w
 ·subst h;exact aeo vals d a b n w
 ·subst h;exact ahO vals d a b n w
 ·subst h;exact af7 vals d a b n w
 ·subst h;exact af8 vals d a b n w
 ·exact af9 vals op d a b n h h1 w
 ·rw[JG e0 e1 e2 e3 e4 e5 (by omega)];exact afa vals op d a b n e0 e1 e2 e3 e4 e5 (XJ h) w
 ·rw[JG e0 e1 e2 e3 e4 e5 (by omega)];exact afa vals op d a b n e0 e1 e2 e3 e4 e5 (XK h) w
theorem l2Term_1 (blocks vals a t o:Int)(hb0:0≤blocks)(hb1:blocks≤9223372036854775807)(w:World) :
  Calls Tryz.prog 73 #[.agg #[vi 1,vi a,vi t,vi o],vi blocks,vi vals] w fun e w'=>jh w (jL blocks vals 1 a t o) e w':=by
 rw[show jL blocks vals 1 a t o=(jl blocks t && (a == 0) && (o == 0)) by simp[jL]];go_enter Tryz.func73,Tryz.ntmps73
 go_wp2_with fail
 refine(xh t blocks _).mono ?_;rintro e w1 ⟨rfl,rfl⟩;go_wp2_with fail
 refine(xh o blocks _).mono ?_;rintro e w2 ⟨rfl,rfl⟩;go_wp2_with fail
 refine(js a vals _).mono ?_;rintro e w3 ⟨rfl,rfl⟩;cases h0:jl blocks t
 ·(go_wp2;go_ret;exact⟨by simp only[h0,Bool.false_and];rfl,Bel.alloc _ _⟩)
 ·cases h1:(a == 0)
  ·(go_wp2;go_ret;exact⟨by simp only[h0,h1,Bool.true_and,Bool.false_and];rfl,Bel.alloc _ _⟩)
  ·cases h2:(o == 0)
   ·(go_wp2;go_ret;exact⟨by simp only[h0,h1,h2,Bool.true_and];rfl,Bel.alloc _ _⟩)
   ·(go_wp2;go_ret;exact⟨by simp only[h0,h1,h2,Bool.true_and];rfl,Bel.alloc _ _⟩)
theorem l2Term_2 (blocks vals a t o:Int)(hb0:0≤blocks)(hb1:blocks≤9223372036854775807)(w:World) :
  Calls Tryz.prog 73 #[.agg #[vi 2,vi a,vi t,vi o],vi blocks,vi vals] w fun e w'=>jh w (jL blocks vals 2 a t o) e w':=by
 rw[show jL blocks vals 2 a t o=(jl blocks t && jl blocks o && jl vals a) by simp[jL]];go_enter Tryz.func73,Tryz.ntmps73
 go_wp2_with fail
 refine(xh t blocks _).mono ?_;rintro e w1 ⟨rfl,rfl⟩;go_wp2_with fail
 refine(xh o blocks _).mono ?_;rintro e w2 ⟨rfl,rfl⟩;go_wp2_with fail
 refine(js a vals _).mono ?_;rintro e w3 ⟨rfl,rfl⟩;cases h0:jl blocks t
 ·(go_wp2;go_ret;exact⟨by simp only[h0,Bool.false_and];rfl,Bel.alloc _ _⟩)
 ·cases h1:jl blocks o
  ·(go_wp2;go_ret;exact⟨by simp only[h0,h1,Bool.true_and,Bool.false_and];rfl,Bel.alloc _ _⟩)
  ·cases h2:jl vals a
   ·(go_wp2;go_ret;exact⟨by simp only[h0,h1,h2,Bool.true_and];rfl,Bel.alloc _ _⟩)
   ·(go_wp2;go_ret;exact⟨by simp only[h0,h1,h2,Bool.true_and];rfl,Bel.alloc _ _⟩)
theorem l2Term_3 (blocks vals a t o:Int)(hb0:0≤blocks)(hb1:blocks≤9223372036854775807)(w:World) :
  Calls Tryz.prog 73 #[.agg #[vi 3,vi a,vi t,vi o],vi blocks,vi vals] w fun e w'=>jh w (jL blocks vals 3 a t o) e w':=by
 rw[show jL blocks vals 3 a t o=(jl vals a && (t == 0) && (o == 0)) by simp[jL]];go_enter Tryz.func73,Tryz.ntmps73
 go_wp2_with fail
 refine(xh t blocks _).mono ?_;rintro e w1 ⟨rfl,rfl⟩;go_wp2_with fail
 refine(xh o blocks _).mono ?_;rintro e w2 ⟨rfl,rfl⟩;go_wp2_with fail
 refine(js a vals _).mono ?_;rintro e w3 ⟨rfl,rfl⟩;cases h0:jl vals a
 ·(go_wp2;go_ret;exact⟨by simp only[h0,Bool.false_and];rfl,Bel.alloc _ _⟩)
 ·cases h1:(t == 0)
  ·(go_wp2;go_ret;exact⟨by simp only[h0,h1,Bool.true_and,Bool.false_and];rfl,Bel.alloc _ _⟩)
  ·cases h2:(o == 0)
   ·(go_wp2;go_ret;exact⟨by simp only[h0,h1,h2,Bool.true_and];rfl,Bel.alloc _ _⟩)
   ·(go_wp2;go_ret;exact⟨by simp only[h0,h1,h2,Bool.true_and];rfl,Bel.alloc _ _⟩)
theorem aep (blocks vals k a t o:Int)(e1:(k == 1)=false)(e2:(k == 2)=false)(e3:(k == 3)=false)(hb0:0≤blocks)(hb1:blocks≤9223372036854775807)(w:World) :
  Calls Tryz.prog 73 #[.agg #[vi k,vi a,vi t,vi o],vi blocks,vi vals] w fun e w'=>jh w (jL blocks vals k a t o) e w':=by
 rw[show jL blocks vals k a t o=false by simp only[beq_eq_false_iff_ne,ne_eq] at e1 e2 e3;simp[jL,e1,e2,e3]];go_enter Tryz.func73,Tryz.ntmps73
 go_wp2_with fail
 refine(xh t blocks _).mono ?_;rintro e w1 ⟨rfl,rfl⟩;go_wp2_with fail
 refine(xh o blocks _).mono ?_;rintro e w2 ⟨rfl,rfl⟩;go_wp2_with fail
 refine(js a vals _).mono ?_;rintro e w3 ⟨rfl,rfl⟩;go_wp2;go_ret;exact⟨rfl,Bel.alloc _ _⟩
theorem aga (blocks vals k a t o:Int)(hb0:0≤blocks)(hb1:blocks≤9223372036854775807)(w:World) :
  Calls Tryz.prog 73 #[.agg #[vi k,vi a,vi t,vi o],vi blocks,vi vals] w fun e w'=>jh w (jL blocks vals k a t o) e w':=by
 by_cases h1:k=1
 ·subst h1;exact l2Term_1 blocks vals a t o hb0 hb1 w
 ·by_cases h2:k=2
  ·subst h2;exact l2Term_2 blocks vals a t o hb0 hb1 w
  ·by_cases h3:k=3
   ·subst h3;exact l2Term_3 blocks vals a t o hb0 hb1 w
   ·exact aep blocks vals k a t o (by simpa using h1) (by simpa using h2) (by simpa using h3) hb0 hb1 w
end Go.Proofs.YtkbhbekfniadhaaGreat
namespace Go.Proofs.YtkbhbekfniadhaaGreat
open Go.ChangeShapes Go.WideShapes Go.ChangeAt Go.RowKit Go.Shelf
set_option linter.unusedVariables false
def zI (w:World)(p:Prop)(e:Ending)(w':World):Prop := ∃b:Bool,e=.returned (.bool b)∧(b=true↔p)∧Below w.heap.size w w'
theorem qA {p:Prop}(h:¬p):(false=true↔p):=⟨fun e=>(nomatch e),fun hp=>(h hp).elim⟩
def JY (blocks vals:Int)(arms:List jy)(k:Nat):Prop :=
 ∀j x,j<k→arms[j]?=some x→jl blocks x.fr=true∧jl vals x.v=true∧∀i y,i<j→arms[i]?=some y→(y.fr == x.fr)=false
def Ku (blocks vals:Int)(x:yy):Prop:=jl vals x.d=true∧x.arms.length≤16∧JY blocks vals x.arms x.arms.length
theorem JY.step {blocks vals:Int}{arms:List jy}{k:Nat}{x:jy}(h:JY blocks vals arms k)(hx:arms[k]?=some x)(h1:jl blocks x.fr=true)(h2:jl vals x.v=true)(h3:∀i y,i<k→arms[i]?=some y→(y.fr == x.fr)=false):JY blocks vals arms (k+1):=by
 intro j z hj hz;by_cases e:j=k
 ·subst e;have e2:=hx.symm.trans hz;simp only[Option.some.injEq] at e2;subst e2;exact⟨h1,h2,h3⟩
 ·exact h j z (by omega) hz
theorem xP {α:Type}{l:List α}{i:Nat}{x:α}(h:l[i]?=some x):i<l.length:=by
 by_cases r:i<l.length
 ·exact r
 ·rw[List.getElem?_eq_none (by omega)] at h;cases h
theorem ahQ (d:Int)(sv:Value)(arms:List jy)(blocks vals:Int)(w:World)(ha:jz 0 2 qq w sv arms)(hb0:0≤blocks)(hb1:blocks≤9223372036854775807) :
  Calls Tryz.prog 74 #[.agg #[vi d,sv],vi blocks,vi vals] w fun e w'=>zI w (Ku blocks vals ⟨d,arms⟩) e w':=by
 obtain⟨a,cap,rfl,hm,hc⟩:=ha;obtain⟨n,HN⟩:∃n,Hid (arms.length=n):=⟨_,rfl⟩;rw[HN.out] at hm hc ⊢;have HC:Hid (0<n→∃b off,a=some (Z b off)∧0≤b∧∀i x,arms[i]?=some x→qq w b (off+i*2) x):=hc;clear hc;go_enter Tryz.func74,Tryz.ntmps74
 go_wp2_with fail
 refine(js d vals _).mono ?_;rintro e w1 ⟨rfl,rfl⟩;cases M:jl vals d
 ·go_wp2;go_ret;exact⟨false,rfl,by simp[Ku,M],Bel.alloc _ _⟩
 ·by_cases aa:(16:Int)<(n:Int)
  ·go_wp2;go_ret;exact⟨false,rfl,by have:=HN.out;simp[Ku];intro _ h;omega,Bel.alloc _ _⟩
  ·go_wp2;go_loopw [7] (fun i wr=>∃k:Nat,k≤n∧i=vi k∧JY blocks vals arms k∧Below (w.alloc (.cells #[vi d,.slice a n cap] 107)).heap.size (w.alloc (.cells #[vi d,.slice a n cap] 107)) wr) (fun i _=>n-(intOf i).toNat)
   case atStart=>exact⟨0,Nat.zero_le _,rfl,fun j x hj=>absurd hj (by omega),Below.refl _ _⟩
   case round=>
    obtain⟨k,hk,rfl,hok,hb3⟩:=hrel;have HK:Hid (JY blocks vals arms k):=hok;have H0:Hid (Below (w.alloc (.cells #[vi d,.slice a n cap] 107)).heap.size (w.alloc (.cells #[vi d,.slice a n cap] 107)) wr):=hb3;have H1:Hid (Below w.heap.size w wr):=Bel.after (Bel.alloc w _) hb3;have g0:=zB hb3 0;have g1:=zB hb3 1;simp at g0 g1;clear hok hb3;by_cases ab:(k:Int)<(n:Int)
    ·obtain⟨b,off,rfl,_,hc1⟩:=HC.out (by omega);have t:Hid (∀i x,arms[i]?=some x→qq w b (off+i*2) x):=hc1;have H:k<arms.length:=by have:=HN.out;omega
     obtain⟨x,HX⟩:∃x,Hid (arms[k]?=some x):=⟨arms[k],List.getElem?_eq_getElem H⟩;obtain⟨c0,c1⟩:=(hc1 k x HX.out).keep (kM.jK H1.out 0) (Nat.zero_le _);clear hc1 H;obtain⟨x0,x1⟩:=x;go_wp2_with fail
     refine(xh x0 blocks _).mono ?_;rintro e w2 ⟨rfl,rfl⟩;cases L:jl blocks x0
     ·go_wp2;go_ret;exact⟨false,rfl,qA (by intro hp;obtain⟨_,_,h⟩:=hp;have h2:=(h k ⟨x0,x1⟩ (by have:=HN.out;show k<arms.length;omega) HX.out).1;rw[L] at h2;exact(nomatch h2)),H1.out⟩
     ·go_wp2_with fail
      refine(js x1 vals _).mono ?_;rintro e w3 ⟨rfl,rfl⟩;cases O:jl vals x1
      ·go_wp2;go_ret;exact⟨false,rfl,qA (by intro hp;obtain⟨_,_,h⟩:=hp;have h2:=(h k ⟨x0,x1⟩ (by have:=HN.out;show k<arms.length;omega) HX.out).2.1;rw[O] at h2;exact(nomatch h2)),H1.out⟩
      ·go_wp2;obtain⟨wo,HWO⟩:∃wo:World,Hid (wo=w3):=⟨_,rfl⟩;go_loopw [8] (fun i wr=>∃m:Nat,m≤k∧i=vi m∧(∀i y,i<m→arms[i]?=some y→(y.fr == x0)=false)∧Below (w.alloc (.cells #[vi d,sq b off n cap] 107)).heap.size (w.alloc (.cells #[vi d,sq b off n cap] 107)) wr) (fun i _=>k-(intOf i).toNat)
       case atStart=>exact⟨0,Nat.zero_le _,rfl,fun j x hj=>absurd hj (by omega),H0.out⟩
       case round=>
        obtain⟨m,hmk,rfl,hdiff,hb4⟩:=hrel;have B:Hid (∀i y,i<m→arms[i]?=some y→(y.fr == x0)=false):=hdiff;have G:Hid (Below (w.alloc (.cells #[vi d,sq b off n cap] 107)).heap.size (w.alloc (.cells #[vi d,sq b off n cap] 107)) wr):=hb4;have r:Hid (Below w.heap.size w wr):=Bel.after (Bel.alloc w _) hb4;have j0:=zB hb4 0;have j1:=zB hb4 1;simp at j0 j1;clear hdiff hb4;by_cases X:(m:Int)<(k:Int)
        ·have K:m<arms.length:=by have:=HN.out;omega
         obtain⟨y,HY⟩:∃y,Hid (arms[m]?=some y):=⟨arms[m],List.getElem?_eq_getElem K⟩;obtain⟨p0,p1⟩:=(t.out m y HY.out).keep (kM.jK r.out 0) (Nat.zero_le _);obtain⟨q0,q1⟩:=(t.out k _ HX.out).keep (kM.jK r.out 0) (Nat.zero_le _);obtain⟨y0,y1⟩:=y;have ac:(m:Int)<(n:Int):=by omega
         clear K c0 c1 g0 g1;cases heq:(y0 == x0)
         ·go_wp2
          go_quiet (fail)
          go_wp2;go_roundw
          case rel=>
           refine⟨m+1,by omega,by go_num,fun i z hi hz=>?_,G.out.trans ⟨rfl,rfl,rfl,Nat.le_refl _,fun _ _=>rfl⟩⟩;by_cases e:i=m
           ·subst e;have e2:=HY.out.symm.trans hz;simp only[Option.some.injEq] at e2;subst e2;exact heq
           ·exact B.out i z (by omega) hz
          case measure=>simp[intOf];omega
         ·go_wp2
          go_quiet (fail)
          go_wp2;go_ret;exact⟨false,rfl,qA (by intro hp;obtain⟨_,_,h⟩:=hp;have h2:=(h k ⟨x0,x1⟩ (by have:=HN.out;show k<arms.length;omega) HX.out).2.2 m ⟨y0,y1⟩ (by omega) HY.out;rw[heq] at h2;exact(nomatch h2)),r.out.trans ⟨rfl,rfl,rfl,Nat.le_refl _,fun _ _=>rfl⟩⟩
        ·have J:m=k:=by omega
         have V:Hid (m=k):=J;clear J;go_wp2;go_roundw
         case rel=>exact⟨k+1,by omega,by go_num,HK.out.step HX.out L O (by have:=V.out;subst this;exact B.out),G.out⟩
         case measure=>simp[intOf];omega
    ·have I:k=n:=by omega
     have U:Hid (k=n):=I;clear I;go_wp2;go_ret;exact⟨true,rfl,⟨fun _=>⟨M,by have:=HN.out;show arms.length≤16;omega,by show JY blocks vals arms arms.length;rw[HN.out,←U.out];exact HK.out⟩,fun _=>rfl⟩,H1.out⟩
end Go.Proofs.YtkbhbekfniadhaaGreat
namespace Go.Proofs.YtkbhbekfniadhaaGreat
open Go.ChangeShapes Go.WideShapes Go.ChangeAt Go.RowKit Go.Shelf
set_option linter.unusedVariables false
def qN (vals:Int)(x:kS):Bool:=jO vals x.op x.d x.a x.b x.n
def Kv (n vals:Int)(x:jc):Prop :=
 x.phis.length≤24∧x.list.length≤24∧(∀(j:Nat) p,x.phis[j]?=some p→Ku n vals p)∧(∀(j:Nat) i,x.list[j]?=some i→qN vals i=true)∧jL n vals x.term.k x.term.a x.term.t x.term.e=true
def jm (F:FnD):Prop:=1≤F.blocks.length∧F.blocks.length≤16∧0≤F.values∧F.values≤80∧∀(j:Nat) b,F.blocks[j]?=some b→Kv (F.blocks.length:Int) F.values b
end Go.Proofs.YtkbhbekfniadhaaGreat
namespace Go.Proofs.YtkbhbekfniadhaaGreat
open Go.ChangeShapes Go.WideShapes Go.ChangeAt Go.RowKit Go.Shelf
set_option linter.unusedVariables false
def ahR (t:QY):List Int:=xR t.k t.t t.e
def succsN (F:FnD)(b:Nat):List Int:=match F.blocks[b]? with | some x=>ahR x.term | none=>[]
theorem adx {F:FnD}{b:Nat}{x:jc}(h:F.blocks[b]?=some x):succsN F b=ahR x.term:=by simp[succsN,h]
open Classical in
noncomputable def aic (F:FnD)(b:Int):List Int:=if jm F∧0≤b∧b<F.blocks.length then succsN F b.toNat else []
theorem aid {F:FnD}{b:Int}(h:jm F)(h0:0≤b)(h1:b<F.blocks.length):aic F b=succsN F b.toNat:=if_pos ⟨h,h0,h1⟩
theorem aim {F:FnD}{b:Int}(h:¬(jm F∧0≤b∧b<F.blocks.length)):aic F b = []:=if_neg h
def yD (F:FnD)(b:Int)(k:Nat):List Int:=((List.range k).filter (fun p=>decide (b∈succsN F p))).map (fun(p:Nat)=>(p:Int))
def yf (F:FnD)(b:Int):List Int:=yD F b F.blocks.length
theorem aeq {F:FnD}{b:Int}{k:Nat}(h:b∈succsN F k):yD F b (k+1)=yD F b k ++ [(k:Int)]:=by simp[yD,List.range_succ,h]
theorem aer {F:FnD}{b:Int}{k:Nat}(h:¬b∈succsN F k):yD F b (k+1)=yD F b k:=by simp[yD,List.range_succ,h]
theorem aac (F:FnD)(b:Int)(k:Nat):(yD F b k).length≤k:=by
 unfold yD;rw[List.length_map];exact Nat.le_trans (List.length_filter_le _ _) (by simp)
theorem jm.term {F:FnD}(h:jm F){j:Nat}{x:jc}(hx:F.blocks[j]?=some x):jL (F.blocks.length:Int) F.values x.term.k x.term.a x.term.t x.term.e=true:=(h.2.2.2.2 j x hx).2.2.2.2
theorem JJ {F:FnD}(h:jm F)(j:Nat):∀s∈succsN F j,0≤s∧s<F.blocks.length:=by
 intro s hs;unfold succsN at hs;split at hs
 ·rename_i x hx
  have ht:=h.term hx;unfold jL at ht;unfold ahR xR at hs;by_cases h1:x.term.k=1
  ·simp[h1,jl] at ht hs;subst hs;exact ht.1.1
  ·by_cases h2:x.term.k=2
   ·simp[h2,jl] at ht;rw[if_neg h1,if_pos h2] at hs;have hm:s=x.term.t∨s=x.term.e:=by
     split at hs
     ·simp at hs;exact .inl hs
     ·simpa using hs
    rcases hm with rfl|rfl
    ·exact ht.1.1
    ·exact ht.1.2
   ·simp[h1,h2] at hs
 ·simp at hs
theorem ack (k t e:Int):(xR k t e).length≤2:=by
 unfold xR;split
 ·simp
 ·split
  ·split <;> simp
  ·simp
theorem zJ (F:FnD)(b:Nat):(succsN F b).length≤2:=by
 unfold succsN;split
 ·exact ack _ _ _
 ·simp
end Go.Proofs.YtkbhbekfniadhaaGreat
namespace Go.Proofs.YtkbhbekfniadhaaGreat
open Go.ChangeShapes Go.WideShapes Go.ChangeAt Go.RowKit Go.Shelf
set_option linter.unusedVariables false
attribute [local go_sem] Oper.semAt_some
theorem aif {B b:Nat}(W:World)(v:Value)(h:b≠B):aax B W (W.setCell (Z b 0) v):=Below.heap_setCell _ _ _ B (by intro e;exact h (by simpa using e.symm))
end Go.Proofs.YtkbhbekfniadhaaGreat
namespace Go.Proofs.YtkbhbekfniadhaaGreat
open Go.ChangeShapes Go.WideShapes Go.ChangeAt Go.RowKit Go.Shelf
set_option linter.unusedVariables false
theorem jY (ba:Option Addr)(bn bcap:Nat)(vals:Int)(v:Value)(l:List Int)(bb:Bool)(hbb:l.all (jl vals)=bb)(w:World)(hl:jV w v l) :
  Calls Tryz.prog 111 #[.agg #[.slice ba bn bcap,vi vals],v] w fun e w'=>jh w bb e w':=by
 subst hbb;exact adw ba bn bcap vals v l w hl
theorem k8 {w w1:World}{x0 x1 y0 y1 y2 y3 y4:Value}{t u:TypeId}(b:Below ((w.alloc (.cells #[x0,x1] t)).alloc (.cells #[y0,y1,y2,y3,y4] u)).heap.size ((w.alloc (.cells #[x0,x1] t)).alloc (.cells #[y0,y1,y2,y3,y4] u)) w1) :
  Hid (Below w.heap.size w w1)∧w1.cell? (Z w.heap.size 0)=some x0∧w1.cell? (Z w.heap.size 1)=some x1∧w1.cell? (Z (w.heap.size+1) 0)=some y0∧w1.cell? (Z (w.heap.size+1) 1)=some y1∧w1.cell? (Z (w.heap.size+1) 2)=some y2∧w1.cell? (Z (w.heap.size+1) 3)=some y3∧w1.cell? (Z (w.heap.size+1) 4)=some y4 :=
 by
 have h0:((w.alloc (.cells #[x0,x1] t)).alloc (.cells #[y0,y1,y2,y3,y4] u)).heap[w.heap.size]?=some (.cells #[x0,x1] t):=by
  show((w.heap.push _).push _)[_]?=_;simp[Array.getElem?_push]
 have h1:((w.alloc (.cells #[x0,x1] t)).alloc (.cells #[y0,y1,y2,y3,y4] u)).heap[w.heap.size+1]?=some (.cells #[y0,y1,y2,y3,y4] u):=by
  show((w.heap.push _).push _)[_]?=_;simp[Array.getElem_push]
 have g0:∀k,((w.alloc (.cells #[x0,x1] t)).alloc (.cells #[y0,y1,y2,y3,y4] u)).cell? (Z w.heap.size k) = #[x0,x1][k]?:=fun k=>by unfold World.cell?;dsimp only;rw[h0];simp
 have g1:∀k,((w.alloc (.cells #[x0,x1] t)).alloc (.cells #[y0,y1,y2,y3,y4] u)).cell? (Z (w.heap.size+1) k) = #[y0,y1,y2,y3,y4][k]?:=fun k=>by unfold World.cell?;dsimp only;rw[h1];simp
 exact⟨Bel.after ((Bel.alloc w _).trans ((Bel.alloc _ _).mono (by simp))) b,Bel.keeps b (g0 0),Bel.keeps b (g0 1),Bel.keeps b (g1 0),Bel.keeps b (g1 1),Bel.keeps b (g1 2),Bel.keeps b (g1 3),Bel.keeps b (g1 4)⟩
theorem xm {w w':World}(b:Below w.heap.size w w'){p0 p1 p2 p3 p4 p5 p6:Addr}{v0 v1 v2 v3 v4 v5 v6:Value}(h0:w.cell? p0=some v0)(h1:w.cell? p1=some v1)(h2:w.cell? p2=some v2)(h3:w.cell? p3=some v3)(h4:w.cell? p4=some v4)(h5:w.cell? p5=some v5)(h6:w.cell? p6=some v6) :
  w'.cell? p0=some v0∧w'.cell? p1=some v1∧w'.cell? p2=some v2∧w'.cell? p3=some v3∧w'.cell? p4=some v4∧w'.cell? p5=some v5∧w'.cell? p6=some v6:=⟨Bel.keeps b h0,Bel.keeps b h1,Bel.keeps b h2,Bel.keeps b h3,Bel.keeps b h4,Bel.keeps b h5,Bel.keeps b h6⟩
end Go.Proofs.YtkbhbekfniadhaaGreat
