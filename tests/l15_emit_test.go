package tests

import (
	"math"
	"reflect"
	"slices"
	"testing"

	"loop.example/g00192/impl"
)

// An emitIns is a place whose values are homes, and its steps: homes below 4 are registers, 4 is slot 0, and 39 is slot 35.
type emitIns struct {
	name string
	x    impl.Ins
	want []impl.Step
}

// An emitCase is a program whose values are homes, and its code.
type emitCase struct {
	name  string
	f     impl.Fn
	reads []int
	want  []impl.Step
}

// emitMixes has the words in every mix of registers and slots.
func emitMixes() []emitIns {
	list := []emitIns{}
	for op := impl.OpAdd; op <= impl.OpRight; op++ {
		list = append(list,
			emitIns{"all registers", insOp(op, 3, 1, 2), codeOf(maWord(op, 3, 1, 2))},
			emitIns{"D a slot", insOp(op, 5, 1, 2), codeOf(maWord(op, 6, 1, 2), maPut(1, 6))},
			emitIns{"A a slot", insOp(op, 3, 6, 2), codeOf(maGet(4, 2), maWord(op, 3, 4, 2))},
			emitIns{"B a slot", insOp(op, 3, 1, 7), codeOf(maGet(5, 3), maWord(op, 3, 1, 5))},
			emitIns{"D and A slots", insOp(op, 5, 6, 2), codeOf(maGet(4, 2), maWord(op, 6, 4, 2), maPut(1, 6))},
			emitIns{"D and B slots", insOp(op, 5, 1, 7), codeOf(maGet(5, 3), maWord(op, 6, 1, 5), maPut(1, 6))},
			emitIns{"A and B slots", insOp(op, 3, 6, 7), codeOf(maGet(4, 2), maGet(5, 3), maWord(op, 3, 4, 5))},
			emitIns{"all slots", insOp(op, 5, 6, 7), codeOf(maGet(4, 2), maGet(5, 3), maWord(op, 6, 4, 5), maPut(1, 6))},
			emitIns{"one register", insOp(op, 2, 2, 2), codeOf(maWord(op, 2, 2, 2))},
			emitIns{"one slot", insOp(op, 8, 8, 8), codeOf(maGet(4, 4), maGet(5, 4), maWord(op, 6, 4, 5), maPut(4, 6))},
			emitIns{"one slot taken twice", insOp(op, 1, 8, 8), codeOf(maGet(4, 4), maGet(5, 4), maWord(op, 1, 4, 5))},
			emitIns{"slots whose homes are the registers for what is on its way", insOp(op, 6, 4, 5), codeOf(maGet(4, 0), maGet(5, 1), maWord(op, 6, 4, 5), maPut(2, 6))},
			emitIns{"and the other way round", insOp(op, 4, 5, 6), codeOf(maGet(4, 1), maGet(5, 2), maWord(op, 6, 4, 5), maPut(0, 6))})
	}
	return list
}

func emitOthers() []emitIns {
	return []emitIns{
		{"a const to a register", insConst(2, 9), codeOf(maSet(2, 9))},
		{"a const to a slot", insConst(9, 2), codeOf(maSet(6, 2), maPut(5, 6))},
		{"the least number to a register", insConst(0, math.MinInt), codeOf(maSet(0, math.MinInt))},
		{"the least number to a slot", insConst(4, math.MinInt), codeOf(maSet(6, math.MinInt), maPut(0, 6))},
		{"the greatest number to a register", insConst(3, math.MaxInt), codeOf(maSet(3, math.MaxInt))},
		{"the greatest number to a slot", insConst(39, math.MaxInt), codeOf(maSet(6, math.MaxInt), maPut(35, 6))},
		{"a const that would be a home", insConst(1, 39), codeOf(maSet(1, 39))},
		{"a const that would be none", insConst(1, 40), codeOf(maSet(1, 40))},
		{"a const of nought", insConst(4, 0), codeOf(maSet(6, 0), maPut(0, 6))},
		{"a load, both registers", insLoad(1, 2), codeOf(maLoad(1, 2))},
		{"a load to a slot", insLoad(9, 2), codeOf(maLoad(6, 2), maPut(5, 6))},
		{"a load from what a slot has", insLoad(1, 9), codeOf(maGet(4, 5), maLoad(1, 4))},
		{"a load, both slots", insLoad(8, 9), codeOf(maGet(4, 5), maLoad(6, 4), maPut(4, 6))},
		{"a load, one register", insLoad(1, 1), codeOf(maLoad(1, 1))},
		{"a load, one slot", insLoad(9, 9), codeOf(maGet(4, 5), maLoad(6, 4), maPut(5, 6))},
		{"a store, both registers", insStore(1, 2), codeOf(maStore(1, 2))},
		{"a store, A a slot", insStore(9, 2), codeOf(maGet(4, 5), maStore(4, 2))},
		{"a store, B a slot", insStore(1, 9), codeOf(maGet(5, 5), maStore(1, 5))},
		{"a store, both slots", insStore(8, 9), codeOf(maGet(4, 4), maGet(5, 5), maStore(4, 5))},
		{"a store, one slot", insStore(9, 9), codeOf(maGet(4, 5), maGet(5, 5), maStore(4, 5))},
		{"a register is told", insOut(3), codeOf(maOut(3))},
		{"a slot is told", insOut(4), codeOf(maGet(4, 0), maOut(4))},
		{"the last slot is told", insOut(39), codeOf(maGet(4, 35), maOut(4))},
		{"a register is read", insRead(3), codeOf(maRead(3))},
		{"a slot is read", insRead(4), codeOf(maRead(6), maPut(0, 6))},
		{"the last slot is read", insRead(39), codeOf(maRead(6), maPut(35, 6))},
	}
}

func emitCopies() []emitIns {
	return []emitIns{
		{"a copy from a register to a register", insCopy(1, 2), codeOf(maMove(1, 2))},
		{"a copy from a slot to a register", insCopy(1, 9), codeOf(maGet(1, 5))},
		{"a copy from a register to a slot", insCopy(9, 1), codeOf(maPut(5, 1))},
		{"a copy from a slot to a slot", insCopy(8, 9), codeOf(maGet(4, 5), maPut(4, 4))},
		{"a copy from a slot to one below", insCopy(9, 8), codeOf(maGet(4, 4), maPut(5, 4))},
		{"a copy of a register to itself", insCopy(2, 2), codeOf(maMove(2, 2))},
		{"a copy of a slot to itself", insCopy(9, 9), codeOf(maGet(4, 5), maPut(5, 4))},
		{"a copy from the last register to the first slot", insCopy(4, 3), codeOf(maPut(0, 3))},
		{"a copy from the first slot to the last register", insCopy(3, 4), codeOf(maGet(3, 0))},
		{"a copy from the last slot to the first", insCopy(4, 39), codeOf(maGet(4, 35), maPut(0, 4))},
		{"a copy from the first slot to the last", insCopy(39, 4), codeOf(maGet(4, 0), maPut(35, 4))},
		{"a copy from the last slot to the first register", insCopy(0, 39), codeOf(maGet(0, 35))},
		{"a copy from the first register to the last slot", insCopy(39, 0), codeOf(maPut(35, 0))},
	}
}

func emitPlaces() []emitIns { return slices.Concat(emitMixes(), emitOthers(), emitCopies()) }

func wantPlace(t *testing.T, name string, x impl.Ins, want []impl.Step) {
	t.Helper()
	got := impl.EmitIns(x)
	if !slices.Equal(got, want) {
		t.Errorf("%s: EmitIns of %+v is %+v, not %+v", name, x, got, want)
	}
	for _, s := range got {
		wantStep(t, s, 1, true)
	}
}

func TestEmitMixes(t *testing.T) {
	for _, c := range emitMixes() {
		wantPlace(t, c.name, c.x, c.want)
	}
}

func TestEmitOthers(t *testing.T) {
	for _, c := range emitOthers() {
		wantPlace(t, c.name, c.x, c.want)
	}
}

func TestEmitCopies(t *testing.T) {
	for _, c := range emitCopies() {
		wantPlace(t, c.name, c.x, c.want)
	}
}

func placeKindOf(op int) placeKind {
	return placeKinds[slices.IndexFunc(placeKinds, func(k placeKind) bool { return k.num == op })]
}

// emitOpModel is the op of the one step that does what a place does, other than a copy.
func emitOpModel(op int) int {
	at := slices.Index([]int{20, 21, 22, 23, 24}, op)
	if at < 0 {
		return op + 11
	}
	return []int{1, 5, 6, 7, 8}[at]
}

// emitTaken is the register in which a home that is taken is, behind what is put ahead of it.
func emitTaken(list *[]impl.Step, named bool, home, way int) int {
	if !named || home < 4 {
		return only(named, home)
	}
	*list = append(*list, maGet(way, home-4))
	return way
}

// emitModel goes by the words, for a place whose values are homes.
func emitModel(x impl.Ins) []impl.Step {
	k, list := placeKindOf(x.Op), []impl.Step{}
	if x.Op == impl.InCopy && x.D < 4 && x.A >= 4 {
		return codeOf(maGet(x.D, x.A-4))
	}
	a := emitTaken(&list, k.a, x.A, 4)
	b := emitTaken(&list, k.b, x.B, 5)
	switch {
	case x.Op == impl.InCopy && x.D < 4:
		return codeOf(maMove(x.D, a))
	case x.Op == impl.InCopy:
		return append(list, maPut(x.D-4, a))
	case k.d && x.D >= 4:
		return append(list, impl.Step{Op: emitOpModel(x.Op), R: 6, A: a, B: b, N: only(k.n, x.N)}, maPut(x.D-4, 6))
	}
	return append(list, impl.Step{Op: emitOpModel(x.Op), R: only(k.d, x.D), A: a, B: b, N: only(k.n, x.N)})
}

func TestEmitModelOfPlaces(t *testing.T) {
	for _, c := range emitPlaces() {
		if got := emitModel(c.x); !slices.Equal(got, c.want) {
			t.Errorf("%s: the model of %+v is %+v, not %+v", c.name, c.x, got, c.want)
		}
	}
}

// emitEdges are homes at all edges, and some between.
var emitEdges = []int{0, 1, impl.Regs - 1, impl.Regs, impl.Regs + 1, impl.Regs + 2, 7, 8, 20, impl.MaxHomes - 2, impl.MaxHomes - 1}

// Each kind of place with each home at D, A and B, all together.
func TestEmitPlacesOfAllKinds(t *testing.T) {
	seen := 0
	for _, k := range placeKinds {
		for _, d := range emitEdges {
			for _, a := range emitEdges {
				for _, b := range emitEdges {
					x := placeIns(k, d, a, b, 11)
					wantPlace(t, "an edge", x, emitModel(x))
					seen++
				}
			}
		}
		for home := range impl.MaxHomes {
			for _, v := range [][3]int{{home, 1, 5}, {5, home, 1}, {1, 5, home}, {home, home, home}} {
				x := placeIns(k, v[0], v[1], v[2], math.MinInt)
				wantPlace(t, "each home", x, emitModel(x))
			}
		}
	}
	if seen != 16*11*11*11 {
		t.Error(seen)
	}
}

// emitFilled has in each home below 40 a number of its own, and in what is no home, too: registers 4 to 7, and the last four slots.
func emitFilled() []impl.Step {
	list := []impl.Step{}
	for slot := range 40 {
		list = append(list, maSet(7, slot%11), maPut(slot, 7))
	}
	for c := range 8 {
		list = append(list, maSet(0, c), maSet(1, 2000+c), maStore(0, 1))
	}
	for r := range 8 {
		list = append(list, maSet(r, 5-r))
	}
	return list
}

// emitAll tells what all registers but those for what is on its way have, all slots, and all cells.
func emitAll() []impl.Step {
	list := codeOf(maOut(0), maOut(1), maOut(2), maOut(3), maOut(7))
	for slot := range 40 {
		list = append(list, maGet(0, slot), maOut(0))
	}
	for c := range 8 {
		list = append(list, maSet(0, c), maLoad(0, 0), maOut(0))
	}
	return append(list, maRead(0), maEnd(0))
}

// emitEffect is what emitAll comes to behind one place, by what the place does with values.
func emitEffect(x impl.Ins) machineCase {
	values, cells, reads := map[int]int{}, map[int]int{}, []int{77, 78}
	for slot := range 40 {
		values[slot+4] = slot % 11
	}
	for r := range 4 {
		values[r] = 5 - r
	}
	for c := range 8 {
		cells[c] = 2000 + c
	}
	c := runCase{}
	if !modelPlace(&c, x, values, cells, &reads) {
		return machineCase{how: impl.RnCell}
	}
	told := append(c.told, values[0], values[1], values[2], values[3], -2)
	for slot := range 40 {
		told = append(told, values[slot+4])
	}
	for cell := range 8 {
		told = append(told, cells[cell])
	}
	return machineCase{told: told, how: impl.RnDone, end: reads[0]}
}

// The steps of a place change the home that it makes, and no other one: what is on its way is in nobody's home.
func TestEmitPlacesDo(t *testing.T) {
	filled, all := emitFilled(), emitAll()
	var seen [3]int
	for _, k := range placeKinds {
		for _, d := range []int{0, 2, 3, 4, 5, 6, 22, 39} {
			for _, a := range []int{0, 2, 3, 4, 5, 6, 14, 39} {
				for _, b := range []int{0, 3, 4, 5, 6, 15, 39} {
					x := placeIns(k, d, a, b, -9)
					c := emitEffect(x)
					c.name, c.reads, c.list = "what a place does", []int{77, 78}, slices.Concat(filled, impl.EmitIns(x), all)
					machineIs(t, c, 1000)
					seen[c.how]++
				}
			}
		}
	}
	if seen[impl.RnDone] < 5000 || seen[impl.RnCell] < 50 {
		t.Error(seen)
	}
}

// emitFar are numbers that are no homes: those next to homes first.
var emitFar = []int{-1, impl.MaxHomes, -2, -36, -40, impl.MaxHomes + 1, 44, 79, 80, 256, 1 << 32, 1<<32 + 1, math.MaxInt, math.MinInt, math.MinInt + 3, math.MinInt + 4}

// emitParts points to D, A and B of a place.
func emitParts(x *impl.Ins) []*int { return []*int{&x.D, &x.A, &x.B} }

// What is no home at D, A or B is nothing where the op names it, and nobody asks for it elsewhere.
func TestEmitWhatIsNoHome(t *testing.T) {
	for _, k := range placeKinds {
		for i, named := range []bool{k.d, k.a, k.b} {
			for _, far := range emitFar {
				for _, others := range []int{0, impl.Regs - 1, impl.Regs, impl.MaxHomes - 1} {
					right := placeIns(k, others, others, others, 7)
					x := right
					*emitParts(&x)[i] = far
					if named {
						wantPlace(t, "no home", x, nil)
					} else {
						wantPlace(t, "no home that is not named", x, emitModel(right))
					}
				}
			}
		}
	}
}

// Two and three that are no homes are no more than one.
func TestEmitWhatIsNoHomeTwice(t *testing.T) {
	for _, k := range placeKinds {
		for _, far := range emitFar {
			for _, other := range []int{-1, impl.MaxHomes} {
				wantPlace(t, "no homes", placeIns(k, far, other, far, 7), nil)
				wantPlace(t, "no homes", placeIns(k, far, far, other, 7), nil)
				wantPlace(t, "no homes", placeIns(k, other, far, far, 7), nil)
			}
		}
	}
}

// What an op does not name counts for nothing, be it a home, or none, or a number.
func TestEmitWhatIsNotNamed(t *testing.T) {
	for _, k := range placeKinds {
		for _, d := range []int{0, 2, 9} {
			for _, a := range []int{0, 1, 8} {
				right := placeIns(k, d, a, 7, -3)
				for _, y := range append([]int{1, 3, 4, 39}, emitFar...) {
					more := impl.Ins{Op: k.num, D: y, A: y, B: y, N: y}
					if k.d {
						more.D = right.D
					}
					if k.a {
						more.A = right.A
					}
					if k.b {
						more.B = right.B
					}
					if k.n {
						more.N = right.N
					}
					wantPlace(t, "more than is named", more, emitModel(right))
				}
			}
		}
	}
}

func TestEmitOpsThatAreNone(t *testing.T) {
	ops := append([]int{math.MinInt + 1, math.MaxInt - 11, math.MaxInt - 10}, fnOpsNone...)
	for op := -60; op <= 80; op++ {
		if !slices.ContainsFunc(placeKinds, func(k placeKind) bool { return k.num == op }) {
			ops = append(ops, op)
		}
	}
	for _, op := range ops {
		for _, home := range []int{0, 3, 4, 39, 40, -1} {
			wantPlace(t, "an op that is none", impl.Ins{Op: op, D: home, A: home, B: home}, nil)
			wantPlace(t, "an op that is none", impl.Ins{Op: op, D: 1, A: home, B: 2, N: home}, nil)
		}
		wantPlace(t, "an op that is none", impl.Ins{Op: op}, nil)
	}
	wantPlace(t, "nothing at all", impl.Ins{}, nil)
}

// emitRow reads two, and adds.
func emitRow() impl.Fn {
	return oneBlock(3, 2, insRead(0), insRead(1), insAdd(2, 0, 1), insOut(2))
}

// emitChoice tells 5 of what is not 0, and 6 of 0.
func emitChoice() impl.Fn {
	return progOf(2,
		blockOf(termBranch(0, 1, 2), insRead(0)),
		blockOf(graphTo(3), insConst(1, 5)),
		blockOf(graphTo(3), insConst(1, 6)),
		blockOf(termBack(0), insOut(1)))
}

// emitLoop counts down from what it reads, and multiplies.
func emitLoop() impl.Fn {
	return progOf(3,
		blockOf(graphTo(1), insRead(0), insConst(1, 1), insConst(2, 1)),
		blockOf(termBranch(0, 2, 3)),
		blockOf(graphTo(1), insOp(impl.OpMul, 1, 1, 0), insOp(impl.OpSub, 0, 0, 2), insOut(1)),
		blockOf(termBack(1)))
}

// emitNest has for each of 1 to what it reads a row that is told down to 1.
func emitNest() impl.Fn {
	return progOf(3,
		blockOf(graphTo(1), insRead(0), insConst(2, -1)),
		blockOf(termBranch(0, 2, 5)),
		blockOf(graphTo(3), insCopy(1, 0)),
		blockOf(termBranch(1, 3, 4), insOut(1), insAdd(1, 1, 2)),
		blockOf(graphTo(1), insAdd(0, 0, 2)),
		blockOf(termBack(2)))
}

func emitOrdinary() []emitCase {
	return []emitCase{
		{"one block in registers", emitRow(), []int{4, 5},
			codeOf(maRead(0), maRead(1), maWord(impl.OpAdd, 2, 0, 1), maOut(2), maEnd(2))},
		{"one block in slots", renameModel(emitRow(), []int{4, 39, 5}), []int{4, 5},
			codeOf(maRead(6), maPut(0, 6), maRead(6), maPut(35, 6), maGet(4, 0), maGet(5, 35), maWord(impl.OpAdd, 6, 4, 5), maPut(1, 6), maGet(4, 1), maOut(4), maGet(4, 1), maEnd(4))},
		{"one block in both", renameModel(emitRow(), []int{3, 4, 3}), []int{4, 5},
			codeOf(maRead(3), maRead(6), maPut(0, 6), maGet(5, 0), maWord(impl.OpAdd, 3, 3, 5), maOut(3), maEnd(3))},
		{"a row of blocks", checkStraight(), []int{5},
			codeOf(maSet(0, 7), maRead(1), maJump(3), maWord(impl.OpAdd, 2, 0, 1), maOut(2), maJump(6), maWord(impl.OpAdd, 3, 2, 0), maEnd(3))},
		{"a choice in registers", emitChoice(), []int{3},
			codeOf(maRead(0), maZero(0, 3), maJump(5), maSet(1, 6), maJump(7), maSet(1, 5), maJump(7), maOut(1), maEnd(0))},
		{"a choice in slots", renameModel(emitChoice(), []int{6, 7}), []int{0},
			codeOf(maRead(6), maPut(2, 6), maGet(4, 2), maZero(4, 5), maJump(8), maSet(6, 6), maPut(3, 6), maJump(11), maSet(6, 5), maPut(3, 6), maJump(11),
				maGet(4, 3), maOut(4), maGet(4, 2), maEnd(4))},
		{"a loop in registers", emitLoop(), []int{4},
			codeOf(maRead(0), maSet(1, 1), maSet(2, 1), maJump(4), maZero(0, 6), maJump(7), maEnd(1),
				maWord(impl.OpMul, 1, 1, 0), maWord(impl.OpSub, 0, 0, 2), maOut(1), maJump(4))},
		{"a loop in both", renameModel(emitLoop(), []int{4, 3, 39}), []int{4},
			codeOf(maRead(6), maPut(0, 6), maSet(3, 1), maSet(6, 1), maPut(35, 6), maJump(6), maGet(4, 0), maZero(4, 9), maJump(10), maEnd(3),
				maGet(5, 0), maWord(impl.OpMul, 3, 3, 5), maGet(4, 0), maGet(5, 35), maWord(impl.OpSub, 6, 4, 5), maPut(0, 6), maOut(3), maJump(6))},
		{"a loop in a loop in registers", emitNest(), []int{3},
			codeOf(maRead(0), maSet(2, -1), maJump(3), maZero(0, 5), maJump(6), maEnd(2), maMove(1, 0), maJump(8),
				maOut(1), maWord(impl.OpAdd, 1, 1, 2), maZero(1, 12), maJump(8), maWord(impl.OpAdd, 0, 0, 2), maJump(3))},
		{"a loop in a loop in slots", renameModel(emitNest(), []int{4, 5, 6}), []int{3},
			codeOf(maRead(6), maPut(0, 6), maSet(6, -1), maPut(2, 6), maJump(5), maGet(4, 0), maZero(4, 8), maJump(10), maGet(4, 2), maEnd(4),
				maGet(4, 0), maPut(1, 4), maJump(13),
				maGet(4, 1), maOut(4), maGet(4, 1), maGet(5, 2), maWord(impl.OpAdd, 6, 4, 5), maPut(1, 6), maGet(4, 1), maZero(4, 22), maJump(13),
				maGet(4, 0), maGet(5, 2), maWord(impl.OpAdd, 6, 4, 5), maPut(0, 6), maJump(5))},
	}
}

// emitEnds has each kind of end with A in a register and in a slot, and blocks that go to any block.
func emitEnds() []emitCase {
	read := insRead(0)
	return []emitCase{
		{"an end alone, a register", progOf(4, blockOf(termBack(3))), nil, codeOf(maEnd(3))},
		{"an end alone, the first slot", progOf(5, blockOf(termBack(4))), nil, codeOf(maGet(4, 0), maEnd(4))},
		{"an end alone, the last slot", progOf(40, blockOf(termBack(39))), nil, codeOf(maGet(4, 35), maEnd(4))},
		{"a jump to the block itself, no value", progOf(0, blockOf(graphTo(0))), nil, codeOf(maJump(0))},
		{"a row of jumps, no value", progOf(0, blockOf(graphTo(2)), blockOf(graphTo(1)), blockOf(graphTo(1))), nil, codeOf(maJump(1), maJump(2), maJump(2))},
		{"a choice by the last register", progOf(4, blockOf(termBranch(3, 1, 2), insRead(3)), blockOf(termBack(3)), blockOf(termBack(0))), []int{8},
			codeOf(maRead(3), maZero(3, 3), maJump(4), maEnd(0), maEnd(3))},
		{"a choice by the first slot", progOf(5, blockOf(termBranch(4, 1, 2), insRead(4)), blockOf(termBack(4)), blockOf(termBack(0))), []int{8},
			codeOf(maRead(6), maPut(0, 6), maGet(4, 0), maZero(4, 5), maJump(6), maEnd(0), maGet(4, 0), maEnd(4))},
		{"a choice between one and the same block, a register", progOf(2, blockOf(termBranch(0, 1, 1), read), blockOf(termBack(0), insOut(0))), []int{8},
			codeOf(maRead(0), maZero(0, 3), maJump(3), maOut(0), maEnd(0))},
		{"a choice between one and the same block, a slot", progOf(5, blockOf(termBranch(4, 1, 1), insRead(4)), blockOf(termBack(0), insOut(4))), []int{8},
			codeOf(maRead(6), maPut(0, 6), maGet(4, 0), maZero(4, 5), maJump(5), maGet(4, 0), maOut(4), maEnd(0))},
		{"a choice between the block itself and itself", progOf(1, blockOf(termBranch(0, 0, 0), read, insOut(0))), []int{8, 0, 7},
			codeOf(maRead(0), maOut(0), maZero(0, 0), maJump(0))},
		{"back to block 0 by To", progOf(1, blockOf(termBranch(0, 0, 1), read, insOut(0)), blockOf(termBack(0))), []int{8, 7, 0, 6},
			codeOf(maRead(0), maOut(0), maZero(0, 4), maJump(0), maEnd(0))},
		{"back to block 0 by Else", progOf(1, blockOf(termBranch(0, 1, 0), read, insOut(0)), blockOf(termBack(0))), []int{0, 0, 8, 7},
			codeOf(maRead(0), maOut(0), maZero(0, 0), maJump(4), maEnd(0))},
		{"a choice by what is not 0 where it is made", progOf(1, blockOf(termBranch(0, 2, 1), read), blockOf(termBack(0), insConst(0, 1)), blockOf(termBack(0), insConst(0, 2))), []int{-1},
			codeOf(maRead(0), maZero(0, 3), maJump(5), maSet(0, 1), maEnd(0), maSet(0, 2), maEnd(0))},
		{"two ends that are alike", progOf(1, blockOf(termBranch(0, 1, 2), read), blockOf(termBack(0)), blockOf(termBack(0))), []int{4},
			codeOf(maRead(0), maZero(0, 3), maJump(4), maEnd(0), maEnd(0))},
	}
}

// emitDead has blocks that are not reached: they have no steps.
func emitDead() []emitCase {
	full := slices.Repeat([]impl.Ins{insAdd(9, 9, 9)}, impl.MaxList)
	many := progOf(10, blockOf(termBack(0), insRead(0)))
	for range impl.MaxBlocks - 1 {
		many.Blocks = append(many.Blocks, blockOf(termBranch(9, 0, 1), full...))
	}
	return []emitCase{
		{"not reached, ahead of one that is", progOf(1, blockOf(graphTo(2), insRead(0)), blockOf(graphTo(2), insOut(0)), blockOf(termBack(0))), []int{4},
			codeOf(maRead(0), maJump(2), maEnd(0))},
		{"not reached, the last one", progOf(1, blockOf(graphTo(1), insRead(0)), blockOf(termBack(0)), blockOf(graphTo(0), insOut(0))), []int{4},
			codeOf(maRead(0), maJump(2), maEnd(0))},
		{"two that go to each other", progOf(1, blockOf(graphTo(3), insRead(0)), blockOf(graphTo(2)), blockOf(graphTo(1)), blockOf(termBack(0))), []int{4},
			codeOf(maRead(0), maJump(2), maEnd(0))},
		{"not reached, and more than there is room for", many, []int{4}, codeOf(maRead(0), maEnd(0))},
	}
}

// emitOdd has values that are never made, or made many times, and copies of homes to themselves.
func emitOdd() []emitCase {
	return []emitCase{
		{"taken, and never made", oneBlock(6, 5, insOut(3), insOut(4), insAdd(0, 5, 2)), nil,
			codeOf(maOut(3), maGet(4, 0), maOut(4), maGet(4, 1), maWord(impl.OpAdd, 0, 4, 2), maGet(4, 1), maEnd(4))},
		{"made many times", oneBlock(5, 4, insConst(4, 1), insConst(4, 2), insRead(4)), []int{3},
			codeOf(maSet(6, 1), maPut(0, 6), maSet(6, 2), maPut(0, 6), maRead(6), maPut(0, 6), maGet(4, 0), maEnd(4))},
		{"copies of homes to themselves are not left out", oneBlock(5, 4, insCopy(4, 4), insCopy(0, 0)), nil,
			codeOf(maGet(4, 0), maPut(0, 4), maMove(0, 0), maGet(4, 0), maEnd(4))},
		{"a circle of two slots", oneBlock(7, 4, insRead(4), insRead(5), insCopy(6, 4), insCopy(4, 5), insCopy(5, 6), insOut(5)), []int{8, 9},
			codeOf(maRead(6), maPut(0, 6), maRead(6), maPut(1, 6), maGet(4, 0), maPut(2, 4), maGet(4, 1), maPut(0, 4), maGet(4, 2), maPut(1, 4),
				maGet(4, 1), maOut(4), maGet(4, 0), maEnd(4))},
		{"a load of a cell that is none", oneBlock(6, 5, insConst(4, 8), insOut(4), insLoad(5, 4), insOut(5)), nil,
			codeOf(maSet(6, 8), maPut(0, 6), maGet(4, 0), maOut(4), maGet(4, 0), maLoad(6, 4), maPut(1, 6), maGet(4, 1), maOut(4), maGet(4, 1), maEnd(4))},
		{"a store to a cell that is none", oneBlock(6, 5, insConst(4, -1), insOut(4), insStore(4, 5), insOut(5)), nil,
			codeOf(maSet(6, -1), maPut(0, 6), maGet(4, 0), maOut(4), maGet(4, 0), maGet(5, 1), maStore(4, 5), maGet(4, 1), maOut(4), maGet(4, 1), maEnd(4))},
		{"cells by slots", oneBlock(7, 6, insConst(4, 7), insRead(5), insStore(4, 5), insLoad(6, 4)), []int{31},
			codeOf(maSet(6, 7), maPut(0, 6), maRead(6), maPut(1, 6), maGet(4, 0), maGet(5, 1), maStore(4, 5), maGet(4, 0), maLoad(6, 4), maPut(2, 6), maGet(4, 2), maEnd(4))},
	}
}

func emitCases() []emitCase {
	return slices.Concat(emitOrdinary(), emitEnds(), emitDead(), emitOdd())
}

func wantEmit(t *testing.T, name string, f impl.Fn, want []impl.Step, wantOk bool) {
	t.Helper()
	got, ok := impl.Emit(f)
	if ok != wantOk || !slices.Equal(got, want) {
		t.Errorf("%s: Emit is %t and\n%+v, not %t and\n%+v: %+v", name, ok, got, wantOk, want, f)
	}
}

// emitRefused is what is answered of a program that has no code.
func emitRefused(t *testing.T, name string, f impl.Fn) {
	t.Helper()
	wantEmit(t, name, f, nil, false)
}

func lookEmit(t *testing.T, c emitCase) {
	t.Helper()
	wantPlain(t, c.name, c.f, true)
	wantEmit(t, c.name, c.f, c.want, true)
	wantMachine(t, c.name, c.want, true)
}

func lookEmits(t *testing.T, cases []emitCase) {
	t.Helper()
	for _, c := range cases {
		lookEmit(t, c)
	}
}

func TestEmitOrdinary(t *testing.T) { lookEmits(t, emitOrdinary()) }

func TestEmitEnds(t *testing.T) { lookEmits(t, emitEnds()) }

func TestEmitDead(t *testing.T) { lookEmits(t, emitDead()) }

func TestEmitOdd(t *testing.T) { lookEmits(t, emitOdd()) }

// emitEndModel is how an end is written, with the blocks that it goes to as they begin.
func emitEndModel(end impl.Term, begins map[int]int) []impl.Step {
	list := []impl.Step{}
	a := emitTaken(&list, end.Kind != impl.TmJump, end.A, 4)
	switch end.Kind {
	case impl.TmBack:
		return append(list, maEnd(a))
	case impl.TmBranch:
		list = append(list, maZero(a, begins[end.Else]))
	}
	return append(list, maJump(begins[end.To]))
}

// emitCodeModel goes by the words: first all blocks are counted, then they are written.
func emitCodeModel(f impl.Fn) ([]impl.Step, bool) {
	begins, n := map[int]int{}, 0
	order := graphModel(f).order
	for _, b := range order {
		begins[b] = n
		for _, x := range f.Blocks[b].List {
			n += len(emitModel(x))
		}
		n += len(emitEndModel(f.Blocks[b].Term, nil))
	}
	list := []impl.Step{}
	for _, b := range order {
		for _, x := range f.Blocks[b].List {
			list = append(list, emitModel(x)...)
		}
		list = append(list, emitEndModel(f.Blocks[b].Term, begins)...)
	}
	if len(list) > 900 {
		return nil, false
	}
	return list, true
}

func TestEmitModelOfCases(t *testing.T) {
	for _, c := range emitCases() {
		if got, ok := emitCodeModel(c.f); !ok || !slices.Equal(got, c.want) {
			t.Errorf("%s: the model tells %+v, not %+v", c.name, got, c.want)
		}
	}
}

// emitNeed is how many steps the code takes for so many places and ends of a program.
func emitNeed(f impl.Fn, reads []int, fuel int) int {
	c, values, cells, reads := &runCase{}, map[int]int{}, map[int]int{}, slices.Clone(reads)
	steps := 0
	for b, i := 0, 0; fuel > 0; fuel-- {
		if block := f.Blocks[b]; i < len(block.List) {
			steps += len(emitModel(block.List[i]))
			if !modelPlace(c, block.List[i], values, cells, &reads) {
				break
			}
			i++
			continue
		}
		end := f.Blocks[b].Term
		steps += len(emitEndModel(end, nil))
		if end.Kind == impl.TmBack {
			break
		}
		b, i = end.To, 0
		if end.Kind == impl.TmBranch && values[end.A] == 0 {
			steps--
			b = end.Else
		}
	}
	return steps
}

// emitTells holds code against a program, place by place: with the steps that so many places and ends take it tells what the program
// tells, and comes to the same.
func emitTells(t *testing.T, name string, f impl.Fn, list []impl.Step, reads []int) {
	t.Helper()
	for _, fuel := range smallRuns(f, reads) {
		c := machineCase{name: name, list: list, reads: reads}
		c.told, c.how, c.end = impl.Run(f, reads, fuel)
		need := emitNeed(f, reads, min(fuel, impl.MaxFuel))
		machineIs(t, c, need)
		if c.how == impl.RnFuel {
			continue
		}
		machineIs(t, c, need+1)
		machineIs(t, c, math.MaxInt)
		if c.how == impl.RnDone {
			machineIs(t, machineCase{name: name + ", a step less", list: list, reads: reads, told: c.told, how: impl.RnFuel}, need-1)
		}
	}
}

// emitPromise is promise 15 of one plain program whose code is not too long; all its blocks begin where its jumps go.
func emitPromise(t *testing.T, name string, f impl.Fn, reads []int) {
	t.Helper()
	list, ok := impl.Emit(f)
	if !ok {
		t.Fatalf("%s: Emit is false: %+v", name, f)
	}
	wantMachine(t, name, list, true)
	if uses := impl.Uses(list); len(uses) > 0 && uses[len(uses)-1] >= f.Values-impl.Regs {
		t.Errorf("%s: it takes the slots %v: %+v", name, uses, f)
	}
	emitTells(t, name, f, list, reads)
}

// Promise 15: the code of a program tells what the program tells.
func TestEmitPromise(t *testing.T) {
	for _, c := range emitCases() {
		for _, reads := range [][]int{c.reads, nil, {0}, {1}, {1, 1, 1}, {2, -1, 0, 4}, {7, 3, 5, 1}, {math.MinInt, math.MaxInt}} {
			emitPromise(t, c.name, c.f, reads)
		}
	}
	for _, c := range homeCases() {
		if c.f.Values <= impl.MaxHomes {
			emitPromise(t, c.name, c.f, c.reads)
		}
	}
	for _, c := range slices.Concat(liveCases(), []liveCase{{name: "every kind", f: homeKinds()}}) {
		emitPromise(t, c.name, c.f, []int{3, 1, 2})
	}
}

// What the codes of ordinary programs tell, by hand.
func TestEmitTold(t *testing.T) {
	for _, homes := range [][]int{{0, 1, 2}, {3, 2, 1}, {4, 5, 6}, {39, 38, 37}, {6, 5, 4}, {0, 4, 1}, {5, 0, 39}, {3, 4, 5}} {
		for _, c := range []struct {
			f     impl.Fn
			reads []int
			told  []int
			end   int
		}{
			{emitRow(), []int{4, 5}, []int{9}, 9},
			{emitRow(), []int{math.MaxInt, 1}, []int{math.MinInt}, math.MinInt},
			{emitChoice(), []int{3}, []int{5}, 3},
			{emitChoice(), []int{0}, []int{6}, 0},
			{emitChoice(), []int{math.MinInt}, []int{5}, math.MinInt},
			{emitLoop(), []int{4}, []int{4, 12, 24, 24}, 24},
			{emitLoop(), nil, nil, 1},
			{emitNest(), []int{3}, []int{3, 2, 1, 2, 1, 1}, -1},
			{emitNest(), nil, nil, -1},
		} {
			list, _ := impl.Emit(renameModel(c.f, homes[:c.f.Values]))
			machineIs(t, machineCase{name: "by hand", list: list, reads: c.reads, told: c.told, how: impl.RnDone, end: c.end}, 1000)
		}
	}
}

// A cell that is none ends the code as it ends the program: with what was told till then.
func TestEmitCells(t *testing.T) {
	for _, homes := range [][2]int{{0, 1}, {0, 4}, {4, 0}, {4, 5}, {39, 38}} {
		at, of := homes[0], homes[1]
		for _, cell := range []int{-1, 0, 1, 6, 7, 8, 9, 40, 1 << 32, math.MaxInt, math.MinInt} {
			load := oneBlock(40, of, insRead(at), insOut(at), insLoad(of, at), insOut(of))
			store := oneBlock(40, of, insRead(at), insRead(of), insOut(of), insStore(at, of), insOut(at), insLoad(of, at))
			for _, f := range []impl.Fn{load, store} {
				emitPromise(t, "cells", f, []int{cell, 31})
				list, _ := impl.Emit(f)
				_, how, _ := impl.RunMachine(list, []int{cell, 31}, 100)
				if (how == impl.RnCell) != (cell < 0 || cell > 7) {
					t.Errorf("cell %d: RunMachine is %d: %+v", cell, how, list)
				}
			}
		}
	}
}

// emitCount counts down from what it reads, with so many places more at the beginning: it takes 5 of fuel and these, and 3 for each.
func emitCount(more int) impl.Fn {
	f := progOf(3,
		blockOf(graphTo(1), insRead(0), insConst(1, -1)),
		blockOf(termBranch(0, 2, 3)),
		blockOf(graphTo(1), insAdd(0, 0, 1)),
		blockOf(termBack(1)))
	for range more {
		addPlace(&f, 0, insAdd(2, 2, 2))
	}
	return f
}

// The longest run that there is: as a place takes four steps at most, the code has fuel enough for it.
func TestEmitLongRuns(t *testing.T) {
	for _, homes := range [][]int{{0, 1, 2}, {4, 5, 6}, {0, 39, 5}} {
		for more := range 4 {
			f := renameModel(emitCount(more), homes)
			for _, n := range []int{0, 100, 1664, 1665, 1666, 3000} {
				emitPromise(t, "a long run", f, []int{n})
			}
		}
		just, _ := impl.Emit(renameModel(emitCount(0), homes))
		machineIs(t, machineCase{name: "the longest run", list: just, reads: []int{1665}, how: impl.RnDone, end: -1}, math.MaxInt)
	}
	for _, x := range []impl.Ins{insAdd(8, 7, 8), insOut(8), insRead(0), insCopy(8, 7)} {
		emitPromise(t, "no end", progOf(9, blockOf(graphTo(0), slices.Repeat([]impl.Ins{x}, impl.MaxList)...)), []int{4, 5})
	}
}

// emitHomes looks at a plain program with homes of all sorts that are right: guessed, each its own, and drawn ones.
func emitHomes(t *testing.T, d *drawer, name string, p impl.Fn, reads []int) {
	t.Helper()
	for _, homes := range homeRights(d, p) {
		r, _ := impl.Renamed(p, homes)
		want, ok := emitCodeModel(r)
		wantEmit(t, name, r, want, ok)
		if !ok {
			continue
		}
		c := machineCase{name: name, list: want, reads: reads}
		c.told, c.how, c.end = impl.Run(p, reads, 250)
		if c.how != impl.RnFuel {
			machineIs(t, c, 1000)
		}
		emitPromise(t, name, r, reads)
	}
}

// What is lowered, and then renamed to homes that were guessed, and to others: the code tells what the program told ahead of all.
func TestEmitLowered(t *testing.T) {
	d := &drawer{x: 15}
	for _, c := range plainCases() {
		emitHomes(t, d, c.name, c.plain, c.reads)
		emitHomes(t, d, c.name, c.plain, []int{1, 1, 1})
	}
	for _, c := range edgeCases() {
		for _, f := range []impl.Fn{c.f, impl.Prune(impl.Fold(c.f))} {
			g, _ := impl.Split(f)
			p, _ := impl.Lower(g)
			emitHomes(t, d, c.name, p, c.reads)
			r, _ := impl.Renamed(p, impl.Guess(p))
			list, ok := impl.Emit(r)
			if !ok {
				t.Fatalf("%s: Emit is false", c.name)
			}
			m := machineCase{name: c.name, list: list, reads: c.reads}
			if m.told, m.how, m.end = impl.Run(f, c.reads, 250); m.how != impl.RnFuel {
				machineIs(t, m, math.MaxInt)
			}
		}
	}
}

func TestEmitDrawnLowered(t *testing.T) {
	d := &drawer{x: 1515}
	seen, slots, long := 0, 0, 0
	var ends [3]int
	wellDrawn(15, 30, func(f impl.Fn) {
		g, _ := impl.Split(f)
		p, ok := impl.Lower(g)
		if !ok {
			return
		}
		seen++
		reads := runReads(d)
		emitHomes(t, d, "drawn", p, reads)
		r, _ := impl.Renamed(p, impl.Guess(p))
		list, _ := impl.Emit(r)
		_, how, _ := impl.RunMachine(list, reads, 1000)
		ends[how]++
		slots += flag(len(impl.Uses(list)) > 0)
		long = max(long, len(list))
	})
	if seen < 150 || slots < 40 || long < 80 || slices.Min(ends[:]) < 10 {
		t.Error(seen, slots, long, ends)
	}
}

// emitDense draws a program of as many blocks as there may be, in a row, with so many places that its code is about MaxCode.
func emitDense(d *drawer) impl.Fn {
	f := liveAnyOf(d, impl.MaxBlocks, impl.MaxHomes, impl.MaxList)
	least := 4 + d.draw(impl.MaxList-3)
	for b := range f.Blocks {
		for len(f.Blocks[b].List) < least {
			k := placeKinds[d.draw(len(placeKinds))]
			addPlace(&f, b, placeIns(k, d.draw(impl.MaxHomes), d.draw(impl.MaxHomes), d.draw(impl.MaxHomes), d.draw(9)))
		}
		if b+1 < len(f.Blocks) {
			f.Blocks[b].Term = termBranch(d.draw(impl.MaxHomes), b+1, d.draw(impl.MaxBlocks))
		}
	}
	return f
}

// Programs that are plain and nothing more, with each value its own home: some have too much code.
func TestEmitDrawnPlain(t *testing.T) {
	d := &drawer{x: 151}
	var seen [2]int
	var ends [3]int
	for i := range 1500 {
		f := liveAnyOf(d, 1+d.draw(impl.MaxBlocks), 1+d.draw([]int{9, impl.MaxHomes}[i%2]), 6)
		if i%10 == 0 {
			f = emitDense(d)
		}
		want, ok := emitCodeModel(f)
		wantEmit(t, "drawn", f, want, ok)
		seen[flag(ok)]++
		if ok {
			reads := runReads(d)
			emitPromise(t, "drawn", f, reads)
			_, how, _ := impl.RunMachine(want, reads, 1000)
			ends[how]++
		}
	}
	if seen[0] < 30 || seen[1] < 1000 || slices.Min(ends[:]) < 20 {
		t.Error(seen, ends)
	}
}

// All ways in which up to three blocks go to each other, with A in a register and in a slot.
func TestEmitAllSmallGraphs(t *testing.T) {
	for n := 1; n <= 3; n++ {
		graphEach(n, func(f impl.Fn) {
			for _, home := range []int{0, 3, 4, 39} {
				g := fnCopy(f)
				g.Values = impl.MaxHomes
				for b := range g.Blocks {
					g.Blocks[b].List = []impl.Ins{insRead(home), insOut(home)}[:1+b%2]
					if g.Blocks[b].Term.Kind != impl.TmJump {
						g.Blocks[b].Term.A = home
					}
				}
				want, ok := emitCodeModel(g)
				wantEmit(t, "small", g, want, ok)
				told, how, end := impl.Run(g, []int{1, 0, 2}, 30)
				machineIs(t, machineCase{name: "small", list: want, reads: []int{1, 0, 2}, told: told, how: how, end: end}, emitNeed(g, []int{1, 0, 2}, 30))
			}
		})
	}
	graphDrawn(func(f impl.Fn) {
		want, ok := emitCodeModel(f)
		wantEmit(t, "drawn", f, want, ok)
	})
}

// The blocks stand by Order, and each begins where the jumps to it go: each tells its own number first.
func TestEmitBlocksByOrder(t *testing.T) {
	graphDrawn(func(f impl.Fn) {
		for b := range f.Blocks {
			f.Blocks[b].List = []impl.Ins{insConst(0, b), insOut(0)}
		}
		list, ok := impl.Emit(f)
		if !ok {
			t.Fatalf("Emit is false: %+v", f)
		}
		begins, order := map[int]int{}, []int{}
		for i, s := range list {
			if s.Op == impl.MaSet {
				begins[i] = s.N
				order = append(order, s.N)
			}
		}
		if !slices.Equal(order, impl.Order(f)) {
			t.Errorf("the blocks stand as %v, not as %v", order, impl.Order(f))
		}
		for _, s := range list {
			if _, is := begins[s.N]; !is && (s.Op == impl.MaJump || s.Op == impl.MaZero) {
				t.Errorf("%+v goes to where no block begins: %+v", s, list)
			}
		}
	})
}

func TestEmitHowManyValues(t *testing.T) {
	for values := range impl.MaxValues + 3 {
		f := progOf(values, blockOf(graphTo(0)))
		if values > impl.MaxHomes {
			emitRefused(t, "too many values, though none is taken", f)
			continue
		}
		lookEmit(t, emitCase{"values that nobody takes", f, nil, codeOf(maJump(0))})
		if values == 0 {
			continue
		}
		f = oneBlock(values, values-1, insRead(values-1))
		want, _ := emitCodeModel(f)
		lookEmit(t, emitCase{"the last value", f, nil, want})
		emitPromise(t, "the last value", f, []int{7})
	}
	for _, c := range emitCases() {
		f := fnCopy(c.f)
		f.Values = impl.MaxHomes
		lookEmit(t, emitCase{c.name, f, c.reads, c.want})
		f.Values++
		wantPlain(t, c.name, f, true)
		emitRefused(t, c.name+": one value too many", f)
		f.Values = impl.MaxValues
		emitRefused(t, c.name+": as many values as a program may have", f)
	}
	last := oneBlock(impl.MaxHomes+1, 0, insRead(impl.MaxHomes))
	wantPlain(t, "a value that has no home", last, true)
	emitRefused(t, "a value that has no home", last)
	lookEmit(t, emitCase{"all homes", homeClique(impl.MaxHomes), nil, emitCodeOf(t, homeClique(impl.MaxHomes))})
	emitRefused(t, "one more", homeClique(impl.MaxHomes+1))
}

// emitCodeOf is the code of a program of which the model has one.
func emitCodeOf(t *testing.T, f impl.Fn) []impl.Step {
	t.Helper()
	list, ok := emitCodeModel(f)
	if !ok {
		t.Fatalf("there is no code: %+v", f)
	}
	return list
}

// emitLong is a program of a row of blocks whose code has just so many steps; big places are four steps each, small ones are one.
func emitLong(n int) impl.Fn {
	f := progOf(impl.MaxHomes)
	for left := n - 1; ; {
		block := blockOf(termBack(0))
		for len(block.List) < impl.MaxList && left > 0 {
			x := insAdd(4, 5, 4)
			if left < 8 {
				x = insAdd(0, 0, 1)
			}
			block.List = append(block.List, x)
			left -= len(emitModel(x))
		}
		f.Blocks = append(f.Blocks, block)
		if left == 0 {
			return f
		}
		f.Blocks[len(f.Blocks)-1].Term = graphTo(len(f.Blocks))
		left--
	}
}

// Limits: a code of MaxCode steps is accepted, one more is refused.
func TestEmitLimits(t *testing.T) {
	for _, n := range []int{1, 2, 8, 96, 97, 98, 99, 850, 890, 897, 898, 899, 900} {
		f := emitLong(n)
		wantPlain(t, "long", f, true)
		list, ok := impl.Emit(f)
		if !ok || len(list) != n {
			t.Errorf("Emit is %t, and has %d steps, not %d", ok, len(list), n)
		}
		lookEmit(t, emitCase{"long", f, nil, emitCodeOf(t, f)})
		emitPromise(t, "long", f, nil)
	}
	for _, n := range []int{901, 902, 903, 904, 905, 950, 1000, 1200, 1500} {
		f := emitLong(n)
		wantPlain(t, "too long", f, true)
		emitRefused(t, "too long", f)
	}
	just, over := emitLong(900), emitLong(900)
	last := len(over.Blocks) - 1
	over.Blocks[last].Term = termBack(4)
	emitRefused(t, "one step too many, for an end in a slot", over)
	over.Blocks[last].Term = termBranch(0, 0, 0)
	emitRefused(t, "one step too many, for a choice", over)
	just.Blocks[last].Term = graphTo(last)
	emitPromise(t, "just enough, with a jump", just, nil)
	full := fnOf(impl.MaxHomes, impl.MaxBlocks)
	for b := range full.Blocks {
		full.Blocks[b] = blockOf(termBranch(39, min(b+1, 15), 0), slices.Repeat([]impl.Ins{insAdd(39, 38, 37)}, impl.MaxList)...)
	}
	wantPlain(t, "all that there may be", full, true)
	emitRefused(t, "all that there may be", full)
}

// As much as there may be of blocks, lists and values, in registers: it is no more than MaxCode.
func TestEmitLimitsOfPrograms(t *testing.T) {
	f := fnOf(impl.MaxHomes, impl.MaxBlocks)
	for b := range f.Blocks {
		f.Blocks[b] = blockOf(graphTo(b+1), slices.Repeat([]impl.Ins{insOut(b % 4), insAdd(b%4, 3, b%4)}, impl.MaxList/2)...)
	}
	f.Blocks[15].Term = termBack(39)
	f.Blocks[0].List[0] = insRead(3)
	lookEmit(t, emitCase{"as much as there may be", f, nil, emitCodeOf(t, f)})
	emitPromise(t, "as much as there may be", f, []int{3})
	for name, spoil := range map[string]func(f *impl.Fn){
		"a value too many": func(f *impl.Fn) { f.Values++ },
		"a block too many": func(f *impl.Fn) { f.Blocks = append(f.Blocks, blockOf(graphTo(0))) },
		"a place too many": func(f *impl.Fn) { addPlace(f, 7, insOut(0)) },
	} {
		g := fnCopy(f)
		spoil(&g)
		emitRefused(t, name, g)
	}
}

func TestEmitNotPlain(t *testing.T) {
	for _, f := range plainNoShape() {
		emitRefused(t, "not ShapeOk", f)
	}
	emitRefused(t, "none", impl.Fn{})
	emitRefused(t, "no block", impl.Fn{Values: 3, Blocks: []impl.Block{}})
	for _, f := range []impl.Fn{checkJoin(), checkLoop(), checkNest(), runFib(), plainBoth(), fnFull()} {
		emitRefused(t, "with phis", f)
	}
	for _, c := range emitCases() {
		for b := range c.f.Blocks {
			emitSpoilt(t, c, b)
		}
		f := fnCopy(c.f)
		f.Values = -1
		emitRefused(t, c.name+": less than no value", f)
	}
}

// emitSpoilt is refused, also where the block is not reached.
func emitSpoilt(t *testing.T, c emitCase, b int) {
	t.Helper()
	for name, spoil := range map[string]func(f *impl.Fn, block *impl.Block){
		"with a phi without arms":        func(f *impl.Fn, block *impl.Block) { block.Phis = []impl.Phi{phiOf(0)} },
		"with a Term that is none":       func(f *impl.Fn, block *impl.Block) { block.Term.Kind = 4 },
		"with no Term":                   func(f *impl.Fn, block *impl.Block) { block.Term = impl.Term{} },
		"with an op that is none":        func(f *impl.Fn, block *impl.Block) { block.List = append(block.List, impl.Ins{Op: 11}) },
		"with a value that is none":      func(f *impl.Fn, block *impl.Block) { block.List = append(block.List, insOut(f.Values)) },
		"with a value below all":         func(f *impl.Fn, block *impl.Block) { block.List = append(block.List, insRead(-1)) },
		"with more than is named":        func(f *impl.Fn, block *impl.Block) { block.List = append(block.List, impl.Ins{Op: impl.InOut, N: 1}) },
		"with an end by no value":        func(f *impl.Fn, block *impl.Block) { block.Term = termBack(f.Values) },
		"with a jump to no block":        func(f *impl.Fn, block *impl.Block) { block.Term = graphTo(len(f.Blocks)) },
		"with a choice of no block":      func(f *impl.Fn, block *impl.Block) { block.Term = termBranch(0, 0, -1) },
		"with a jump that names a value": func(f *impl.Fn, block *impl.Block) { block.Term = impl.Term{Kind: impl.TmJump, A: 1} },
	} {
		f := fnCopy(c.f)
		f.Values = max(f.Values, 1)
		spoil(&f, &f.Blocks[b])
		wantPlain(t, c.name+": "+name, f, false)
		emitRefused(t, c.name+": "+name, f)
	}
}

// emitUntouched asks with room behind every list, and looks whether anything was written there, or counts.
func emitUntouched(t *testing.T, name string, f impl.Fn) {
	t.Helper()
	want, ok := impl.Emit(f)
	roomy := fnRoomy(f)
	before := fnCopy(fnWhole(roomy))
	wantEmit(t, name+" with room", roomy, want, ok)
	if !reflect.DeepEqual(fnWhole(roomy), before) {
		t.Errorf("%s: an argument was written into", name)
	}
}

// Promise 21: neither a program nor the spare room behind it is written into, and none of it counts.
func TestEmitWritesIntoNothing(t *testing.T) {
	for _, c := range emitCases() {
		emitUntouched(t, c.name, c.f)
	}
	for _, c := range plainAnyPrograms() {
		emitUntouched(t, c.name, c.f)
	}
	emitUntouched(t, "just long enough", emitLong(900))
	emitUntouched(t, "too long", emitLong(901))
}

func TestEmitSameEachTime(t *testing.T) {
	for range 10 {
		lookEmits(t, emitCases())
		for _, c := range emitPlaces() {
			wantPlace(t, c.name, c.x, c.want)
		}
	}
}

// No answer is kept from one call to another: whoever writes into one, or into the room behind it, changes no other.
func TestEmitAnswersAreNew(t *testing.T) {
	for _, c := range emitCases() {
		list, _ := impl.Emit(c.f)
		again, _ := impl.Emit(c.f)
		clear(list[:cap(list)])
		if !slices.Equal(again, c.want) {
			t.Errorf("%s: two answers share memory", c.name)
		}
		lookEmit(t, c)
	}
	for _, c := range emitPlaces() {
		list, again := impl.EmitIns(c.x), impl.EmitIns(c.x)
		clear(list[:cap(list)])
		if !slices.Equal(again, c.want) {
			t.Errorf("%s: two answers share memory", c.name)
		}
		wantPlace(t, c.name, c.x, c.want)
	}
	none, _ := impl.Emit(impl.Fn{})
	clear(none[:cap(none)])
	nothing := impl.EmitIns(impl.Ins{})
	clear(nothing[:cap(nothing)])
	wantPlace(t, "nothing", impl.Ins{}, nil)
	emitRefused(t, "nothing", impl.Fn{})
}
