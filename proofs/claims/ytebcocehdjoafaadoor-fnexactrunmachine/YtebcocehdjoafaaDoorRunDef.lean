/- What a program tells, as mathematics: values, cells, what is read, what was told, the way, and fuel. -/
import Derived.Test.YtebcocehdjoafaaDoorDeep
namespace Go.Proofs.YtebcocehdjoafaaDoor
set_option linter.unusedVariables false

/-- Where a run is. -/
structure RunS where
  vals : Nat → Int
  cells : Nat → Int
  reads : List Int
  told : List Int
  path : List Int
  fuel : Nat

def updN (f : Nat → Int) (k : Nat) (x : Int) : Nat → Int := fun i => if i = k then x else f i

def RunS.setV (s : RunS) (d x : Int) : RunS := { s with vals := updN s.vals d.toNat x }
def RunS.val (s : RunS) (v : Int) : Int := s.vals v.toNat
/-- Is it the number of a cell? -/
def cellOk (a : Int) : Prop := 0 ≤ a ∧ a ≤ 7
instance (a : Int) : Decidable (cellOk a) := inferInstanceAs (Decidable (0 ≤ a ∧ a ≤ 7))

/-- What a place does: how it ends, and the run behind it. -/
def insDo (W : Int → Int → Int → Int) (x : InsD) (s : RunS) : Int × RunS :=
  if 1 ≤ x.op ∧ x.op ≤ 10 then (0, s.setV x.d (W x.op (s.val x.a) (s.val x.b)))
  else if x.op = 20 then (0, s.setV x.d x.n)
  else if x.op = 21 then (if cellOk (s.val x.a) then (0, s.setV x.d (s.cells (s.val x.a).toNat)) else (2, s))
  else if x.op = 22 then (if cellOk (s.val x.a) then (0, { s with cells := updN s.cells (s.val x.a).toNat (s.val x.b) }) else (2, s))
  else if x.op = 23 then (0, { s with told := s.told ++ [s.val x.a] })
  else if x.op = 24 then (0, { s.setV x.d (s.reads.headD 0) with reads := s.reads.tail })
  else if x.op = 25 then (0, s.setV x.d (s.val x.a))
  else (0, s)

def armsDo (fr : Int) (before : Nat → Int) (d : Int) (l : List ArmD) (v : Nat → Int) : Nat → Int :=
  l.foldl (fun v a => if a.fr = fr then updN v d.toNat (before a.v.toNat) else v) v
def phisDo (fr : Int) (before : Nat → Int) (ps : List PhiD) (v : Nat → Int) : Nat → Int :=
  ps.foldl (fun v p => armsDo fr before p.d p.arms v) v

/-- The places of a list, one behind the other. -/
def placesDo (W : Int → Int → Int → Int) : List InsD → RunS → Int × RunS
  | [], s => (0, s)
  | x :: xs, s => if s.fuel = 0 then (1, s) else
    let r := insDo W x { s with fuel := s.fuel - 1 }
    if r.1 = 0 then placesDo W xs r.2 else r

def enterDo (b : BlockD) (at_ : Nat) (fr : Int) (s : RunS) : RunS := { s with vals := phisDo fr s.vals b.phis s.vals, path := s.path ++ [(at_ : Int)] }

/-- Where one goes. -/
def nextDo (t : TermD) (s : RunS) : Int := if t.k = 2 ∧ s.val t.a = 0 then t.e else t.t

/-- A run from a block on: how, what the end is, and where it is then. -/
def tellN (W : Int → Int → Int → Int) (F : FnD) : Nat → Nat → Int → RunS → Int × Int × RunS
  | 0, _, _, s => (1, 0, s)
  | k + 1, at_, fr, s => match F.blocks[at_]? with
    | none => (1, 0, s)
    | some b =>
      let r := placesDo W b.list (enterDo b at_ fr s)
      if r.1 ≠ 0 then (r.1, 0, r.2)
      else if r.2.fuel = 0 then (1, 0, r.2)
      else if b.term.k = 3 then (0, r.2.val b.term.a, { r.2 with fuel := r.2.fuel - 1 })
      else tellN W F k (nextDo b.term r.2).toNat at_ { r.2 with fuel := r.2.fuel - 1 }

def startDo (reads : List Int) (fuel : Int) : RunS := ⟨fun _ => 0, fun _ => 0, reads, [], [], (min fuel 5000).toNat⟩
def runDo (W : Int → Int → Int → Int) (F : FnD) (reads : List Int) (fuel : Int) : Int × Int × RunS := tellN W F 5001 0 (-1) (startDo reads fuel)

theorem insDo_fuel (W : Int → Int → Int → Int) (x : InsD) (s : RunS) : (insDo W x s).2.fuel = s.fuel := by
  unfold insDo
  repeat' split
  all_goals rfl
theorem placesDo_fuel (W : Int → Int → Int → Int) (xs : List InsD) (s : RunS) : (placesDo W xs s).2.fuel ≤ s.fuel := by
  induction xs generalizing s with
  | nil => exact Nat.le_refl _
  | cons x xs ih =>
    unfold placesDo
    split
    · exact Nat.le_refl _
    · have h := insDo_fuel W x { s with fuel := s.fuel - 1 }
      dsimp only at h ⊢
      split
      · have := ih (insDo W x { s with fuel := s.fuel - 1 }).2
        omega
      · omega
theorem placesDo_cons (W : Int → Int → Int → Int) (x : InsD) (xs : List InsD) (s : RunS) : placesDo W (x :: xs) s = if s.fuel = 0 then (1, s) else (if (insDo W x { s with fuel := s.fuel - 1 }).1 = 0 then placesDo W xs (insDo W x { s with fuel := s.fuel - 1 }).2 else insDo W x { s with fuel := s.fuel - 1 }) := rfl
end Go.Proofs.YtebcocehdjoafaaDoor
