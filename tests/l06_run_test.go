package tests

import (
	"math"
	"reflect"
	"slices"
	"testing"

	"loop.example/g00192/impl"
)

func insOp(op, d, a, b int) impl.Ins { return impl.Ins{Op: op, D: d, A: a, B: b} }

func insLoad(d, a int) impl.Ins { return impl.Ins{Op: impl.InLoad, D: d, A: a} }

func insStore(a, b int) impl.Ins { return impl.Ins{Op: impl.InStore, A: a, B: b} }

func insCopy(d, a int) impl.Ins { return impl.Ins{Op: impl.InCopy, D: d, A: a} }

// A runCase is a program and all that comes of it with fuel enough; need is the least that is.
type runCase struct {
	name  string
	f     impl.Fn
	reads []int
	told  []int
	how   int
	end   int
	path  []int
	need  int
}

// runFib has a loop whose phis take each other: a is b, b is a and b.
func runFib() impl.Fn {
	return progOf(9,
		blockOf(graphTo(1), insRead(0), insConst(1, 0), insConst(2, 1)),
		withPhis(blockOf(termBranch(5, 2, 3)),
			phiOf(3, [2]int{0, 1}, [2]int{2, 4}), phiOf(4, [2]int{2, 6}, [2]int{0, 2}), phiOf(5, [2]int{0, 0}, [2]int{2, 7})),
		blockOf(graphTo(1), insOut(3), insAdd(6, 3, 4), insOp(impl.OpSub, 7, 5, 2)),
		blockOf(termBack(3)))
}

// runSwap has a loop whose two phis do nothing but swap.
func runSwap() impl.Fn {
	return progOf(7,
		blockOf(graphTo(1), insRead(0), insRead(1), insConst(2, -1), insConst(3, 3)),
		withPhis(blockOf(termBranch(6, 1, 2), insOut(4), insOut(5), insAdd(6, 3, 2), insAdd(3, 3, 2)),
			phiOf(4, [2]int{0, 0}, [2]int{1, 5}), phiOf(5, [2]int{0, 1}, [2]int{1, 4})),
		blockOf(termBack(4)))
}

// runCells stores what it reads into two cells, and loads it from there; a third one is still 0.
func runCells() impl.Fn {
	return progOf(8,
		blockOf(graphTo(1), insConst(0, 0), insConst(1, 7), insRead(2), insRead(3), insStore(0, 2), insStore(1, 3)),
		blockOf(termBack(7), insLoad(4, 1), insLoad(5, 0), insOut(4), insOut(5), insConst(6, 3), insLoad(7, 6), insOut(7), insStore(0, 4), insLoad(7, 0)))
}

// runEcho reads and tells till it reads 0.
func runEcho() impl.Fn {
	return progOf(2,
		blockOf(graphTo(1), insConst(1, 9)),
		blockOf(termBranch(0, 2, 3), insRead(0)),
		blockOf(graphTo(1), insOut(0)),
		blockOf(termBack(1)))
}

func runOrdinary() []runCase {
	return []runCase{
		{"straight on", checkStraight(), []int{5}, []int{12}, impl.RnDone, 19, []int{0, 1, 2}, 8},
		{"straight on with more to read", checkStraight(), []int{-7, 3, 4}, []int{0}, impl.RnDone, 7, []int{0, 1, 2}, 8},
		{"a branch To", checkJoin(), []int{4}, nil, impl.RnDone, 5, []int{0, 1, 3}, 6},
		{"a branch To below 0", checkJoin(), []int{-1}, nil, impl.RnDone, 0, []int{0, 1, 3}, 6},
		{"a branch Else", checkJoin(), []int{0}, []int{2}, impl.RnDone, 2, []int{0, 2, 3}, 7},
		{"a loop", checkLoop(), nil, []int{3, 2, 1}, impl.RnDone, 6, []int{0, 1, 2, 1, 2, 1, 2, 1, 3}, 21},
		{"a loop whose phis take each other", runFib(), []int{5}, []int{0, 1, 1, 2, 3}, impl.RnDone, 5, []int{0, 1, 2, 1, 2, 1, 2, 1, 2, 1, 2, 1, 3}, 31},
		{"the same loop never gone through", runFib(), nil, nil, impl.RnDone, 0, []int{0, 1, 3}, 6},
		{"a loop whose phis swap", runSwap(), []int{10, 20}, []int{10, 20, 20, 10, 10, 20}, impl.RnDone, 10, []int{0, 1, 1, 1, 2}, 21},
		{"a loop in a loop", checkNest(), []int{2}, []int{1, 0, 0, 2}, impl.RnDone, 2, []int{0, 1, 2, 3, 2, 3, 2, 4, 1, 2, 3, 2, 4, 1, 5}, 27},
		{"stores and loads", runCells(), []int{11, 12}, []int{12, 11, 0}, impl.RnDone, 12, []int{0, 1}, 17},
		{"reads and tells", runEcho(), []int{3, -2, 8}, []int{3, -2, 8}, impl.RnDone, 9, []int{0, 1, 2, 1, 2, 1, 2, 1, 3}, 17},
		{"reads and tells till a 0", runEcho(), []int{3, 0, 8}, []int{3}, impl.RnDone, 9, []int{0, 1, 2, 1, 3}, 9},
		{"reads and tells nothing", runEcho(), []int{}, nil, impl.RnDone, 9, []int{0, 1, 3}, 5},
	}
}

// runPhis are the edges of phis: where one comes from, and all at once.
func runPhis() []runCase {
	three := []impl.Ins{insConst(0, 10), insConst(1, 20), insConst(2, 30)}
	tell := []impl.Ins{insOut(0), insOut(1), insOut(2)}
	after := func(phis ...impl.Phi) impl.Fn {
		return progOf(3, blockOf(graphTo(1), three...), withPhis(blockOf(termBack(0), tell...), phis...))
	}
	runs := func(name string, f impl.Fn, a, b, c int) runCase {
		return runCase{name, f, nil, []int{a, b, c}, impl.RnDone, a, []int{0, 1}, 8}
	}
	here := func(d, v int) impl.Phi { return phiOf(d, [2]int{0, v}) }
	round := progOf(4, withPhis(blockOf(termBranch(2, 0, 1), insOut(0), insOut(1), insRead(2), insConst(3, 6)), phiOf(0, [2]int{0, 2}), phiOf(1, [2]int{1, 2}, [2]int{0, 0})), blockOf(termBack(3)))
	return []runCase{
		runs("two phis that take each other", after(here(0, 1), here(1, 0)), 20, 10, 30),
		runs("three phis in a ring", after(here(0, 1), here(1, 2), here(2, 0)), 20, 30, 10),
		runs("three phis in a ring the other way", after(here(0, 2), here(1, 0), here(2, 1)), 30, 10, 20),
		runs("a row of phis", after(here(1, 0), here(2, 1)), 10, 10, 20),
		runs("a phi that takes itself", after(here(0, 0)), 10, 20, 30),
		runs("a phi without an arm", after(phiOf(0), here(1, 2)), 10, 30, 30),
		runs("a phi with an arm from elsewhere alone", after(phiOf(1, [2]int{1, 0}), here(2, 0)), 10, 20, 10),
		runs("a phi with an arm from elsewhere first", after(phiOf(1, [2]int{1, 0}, [2]int{0, 2})), 10, 30, 30),
		runs("a phi with an arm from elsewhere last", after(phiOf(1, [2]int{0, 2}, [2]int{1, 0})), 10, 30, 30),
		{"block 0 has phis: nothing at first, then by where one comes from", round, []int{4, 5, 0}, []int{0, 0, 4, 0, 5, 4}, impl.RnDone, 6, []int{0, 0, 0, 1}, 16},
		{"block 0 has an arm from itself: not at the beginning", progOf(2, withPhis(blockOf(termBranch(1, 0, 1), insOut(0), insRead(1)), phiOf(0, [2]int{0, 1})), blockOf(termBack(0))), []int{7, 0}, []int{0, 7}, impl.RnDone, 7, []int{0, 0, 1}, 7},
		{"a way back to block 0 from elsewhere", progOf(3, withPhis(blockOf(graphTo(1), insOut(0)), phiOf(0, [2]int{1, 1}), phiOf(2, [2]int{0, 1})), blockOf(termBranch(1, 0, 2), insRead(1)), blockOf(termBack(2))), []int{3, 4}, []int{0, 3, 4}, impl.RnDone, 0, []int{0, 1, 0, 1, 0, 1, 2}, 13},
		{"a branch to one block, To", progOf(2, blockOf(termBranch(0, 1, 1), insRead(0)), withPhis(blockOf(termBack(1)), phiOf(1, [2]int{0, 0}))), []int{8}, nil, impl.RnDone, 8, []int{0, 1}, 3},
		{"a branch to one block, Else", progOf(2, blockOf(termBranch(0, 1, 1), insConst(1, 4), insRead(0)), withPhis(blockOf(termBack(1)), phiOf(1, [2]int{0, 0}))), []int{0}, nil, impl.RnDone, 0, []int{0, 1}, 4},
	}
}

// runOdd are programs that are ShapeOk, but not well, and other edges.
func runOdd() []runCase {
	return []runCase{
		{"no place at all", progOf(1, blockOf(termBack(0))), []int{6}, nil, impl.RnDone, 0, []int{0}, 1},
		{"the last of all values", progOf(80, blockOf(termBack(79), insConst(79, 5))), nil, nil, impl.RnDone, 5, []int{0}, 2},
		{"no place in a row of blocks", progOf(1, blockOf(graphTo(1)), blockOf(graphTo(2)), blockOf(termBack(0))), nil, nil, impl.RnDone, 0, []int{0, 1, 2}, 3},
		{"a read when there is nothing left is 0, not what was there", progOf(2, blockOf(termBack(0), insRead(0), insOut(0), insRead(0), insOut(0), insRead(0))), []int{5}, []int{5, 0}, impl.RnDone, 0, []int{0}, 6},
		{"a value that is nowhere made is 0", progOf(3, blockOf(termBack(2), insOut(1), insAdd(2, 1, 0))), nil, []int{0}, impl.RnDone, 0, []int{0}, 3},
		{"a value that is made twice", progOf(2, blockOf(termBack(0), insConst(0, 3), insOut(0), insConst(0, 4), insOut(0))), nil, []int{3, 4}, impl.RnDone, 4, []int{0}, 5},
		{"a place takes what it makes", progOf(1, blockOf(termBack(0), insConst(0, 3), insAdd(0, 0, 0), insOp(impl.OpMul, 0, 0, 0))), nil, nil, impl.RnDone, 36, []int{0}, 4},
		{"copies, one behind the other", progOf(3, blockOf(termBack(1), insConst(0, 3), insConst(1, 4), insCopy(2, 0), insCopy(0, 1), insCopy(1, 2), insOut(0))), nil, []int{4}, impl.RnDone, 3, []int{0}, 7},
		{"blocks that are not reached", progOf(1, blockOf(graphTo(2), insConst(0, 1)), blockOf(termBack(0), insOut(0)), blockOf(termBack(0))), nil, nil, impl.RnDone, 1, []int{0, 2}, 3},
		{"words that wrap", progOf(6, blockOf(termBack(5), insConst(0, math.MaxInt), insConst(1, 1), insAdd(2, 0, 1), insOut(2), insOp(impl.OpSub, 3, 2, 1), insOut(3), insOp(impl.OpMul, 4, 2, 2), insOut(4), insOp(impl.OpMul, 5, 0, 0))), nil, []int{math.MinInt, math.MaxInt, 0}, impl.RnDone, 1, []int{0}, 10},
		{"shifts", progOf(6, blockOf(termBack(5), insConst(0, -8), insConst(1, 65), insConst(2, -1), insOp(impl.OpLeft, 3, 0, 1), insOut(3), insOp(impl.OpRight, 4, 0, 1), insOut(4), insOp(impl.OpRight, 5, 0, 2), insOut(5), insOp(impl.OpLeft, 5, 2, 2))), nil, []int{-16, -4, -1}, impl.RnDone, math.MinInt, []int{0}, 11},
		{"A is ahead of B", progOf(3, blockOf(termBack(2), insConst(0, 2), insConst(1, 5), insOp(impl.OpSub, 2, 0, 1), insOut(2), insOp(impl.OpLess, 2, 0, 1), insOut(2), insOp(impl.OpLess, 2, 1, 0))), nil, []int{-3, 1}, impl.RnDone, 0, []int{0}, 8},
		{"the least number is told, and is not 0", progOf(1, blockOf(termBranch(0, 2, 1), insConst(0, math.MinInt), insOut(0)), blockOf(termBack(0), insRead(0)), blockOf(termBack(0))), nil, []int{math.MinInt}, impl.RnDone, math.MinInt, []int{0, 2}, 4},
	}
}

// runCell has one load and one store of the cell, behind something that is told.
func runCell(cell int) []runCase {
	how := impl.RnCell
	if cell >= 0 && cell < 8 {
		how = impl.RnDone
	}
	load := progOf(3, blockOf(termBack(1), insRead(0), insConst(1, 9), insOut(1), insLoad(1, 0), insOut(1)))
	store := progOf(3, blockOf(graphTo(1), insRead(0), insConst(1, 9), insOut(1)), blockOf(termBack(2), insStore(0, 1), insOut(0), insLoad(2, 0)))
	lost := runCase{"a load of a cell that is none", load, []int{cell}, []int{9}, how, 0, []int{0}, 4}
	gone := runCase{"a store to a cell that is none", store, []int{cell}, []int{9}, how, 0, []int{0, 1}, 5}
	if how == impl.RnDone {
		lost.told, lost.need = []int{9, 0}, 6
		gone.told, gone.end, gone.need = []int{9, cell}, 9, 8
	}
	return []runCase{lost, gone}
}

func runCellCases() []runCase {
	list := []runCase{}
	for _, cell := range []int{0, 1, 2, 3, 4, 5, 6, 7, 8, 9, 10, 256, 1 << 32, 1<<32 + 1, math.MaxInt, -1, -2, -8, math.MinInt} {
		list = append(list, runCell(cell)...)
	}
	return list
}

func runCases() []runCase {
	return slices.Concat(runOrdinary(), runPhis(), runOdd(), runCellCases())
}

// runIs holds what Run and Path tell with that fuel against what is wanted.
func runIs(t *testing.T, c runCase, fuel int) {
	t.Helper()
	told, how, end := impl.Run(c.f, c.reads, fuel)
	if !slices.Equal(told, c.told) || how != c.how || end != c.end {
		t.Errorf("%s, fuel %d: Run is %v, %d, %d, not %v, %d, %d: %+v", c.name, fuel, told, how, end, c.told, c.how, c.end, c.f)
	}
	if path := impl.Path(c.f, c.reads, fuel); !slices.Equal(path, c.path) {
		t.Errorf("%s, fuel %d: Path is %v, not %v: %+v", c.name, fuel, path, c.path, c.f)
	}
}

func isBeginning(part, whole []int) bool {
	return len(part) <= len(whole) && slices.Equal(part, whole[:len(part)])
}

// runBegins looks at a run that has not fuel enough: it tells the beginning of what the whole tells,
// and with one more of fuel no less than before.
func runBegins(t *testing.T, c runCase, fuel int) {
	t.Helper()
	told, how, end := impl.Run(c.f, c.reads, fuel)
	path := impl.Path(c.f, c.reads, fuel)
	if how != impl.RnFuel || end != 0 || !isBeginning(told, c.told) || !isBeginning(path, c.path) || len(path) == 0 {
		t.Errorf("%s, fuel %d of %d: Run is %v, %d, %d, and Path %v: %+v", c.name, fuel, c.need, told, how, end, path, c.f)
	}
	more, _, _ := impl.Run(c.f, c.reads, fuel+1)
	if len(more) < len(told) || len(more) > len(told)+1 {
		t.Errorf("%s, fuel %d of %d: %v are told, with one more %v", c.name, fuel, c.need, told, more)
	}
	if ways := impl.Path(c.f, c.reads, fuel+1); len(ways) < len(path) || len(ways) > len(path)+1 {
		t.Errorf("%s, fuel %d of %d: Path is %v, with one more %v", c.name, fuel, c.need, path, ways)
	}
}

// runPromise is promise 6 of one program.
func runPromise(t *testing.T, c runCase) {
	t.Helper()
	for fuel := range c.need {
		runBegins(t, c, fuel)
	}
	for _, more := range []int{0, 1, 2, 3, 4, 5, 10, 100} {
		runIs(t, c, c.need+more)
	}
	for _, fuel := range []int{4999, 5000, 5001, 1 << 32, math.MaxInt} {
		runIs(t, c, fuel)
	}
}

func TestRunNumbers(t *testing.T) {
	if impl.Cells != 8 || impl.MaxFuel != 5000 {
		t.Error("limits")
	}
	if got := []int{impl.RnDone, impl.RnFuel, impl.RnCell, impl.RnBad}; !slices.Equal(got, []int{0, 1, 2, 3}) {
		t.Error(got)
	}
}

func TestRunOrdinary(t *testing.T) {
	for _, c := range runOrdinary() {
		runIs(t, c, 1000)
	}
}

func TestRunPhis(t *testing.T) {
	for _, c := range runPhis() {
		runIs(t, c, 1000)
	}
}

func TestRunOdd(t *testing.T) {
	for _, c := range runOdd() {
		runIs(t, c, 1000)
	}
}

func TestRunCells(t *testing.T) {
	for _, c := range runCellCases() {
		runIs(t, c, 1000)
	}
}

// Promise 6: with more fuel than it needs a program tells the same; with less the beginning.
func TestRunPromise(t *testing.T) {
	for _, c := range runCases() {
		runPromise(t, c)
	}
}

// What is told, and where one is, with each fuel: the last place and the last Term take one each.
func TestRunFuelByFuel(t *testing.T) {
	f := checkStraight()
	for fuel, want := range []runCase{
		{path: []int{0}}, {path: []int{0}}, {path: []int{0}}, {path: []int{0, 1}}, {path: []int{0, 1}},
		{path: []int{0, 1}, told: []int{12}},
		{path: []int{0, 1, 2}, told: []int{12}}, {path: []int{0, 1, 2}, told: []int{12}},
	} {
		want.f, want.reads, want.how = f, []int{5}, impl.RnFuel
		runIs(t, want, fuel)
	}
	runIs(t, runCase{f: f, reads: []int{5}, told: []int{12}, end: 19, path: []int{0, 1, 2}}, 8)
}

// A place that has no fuel left is not looked at: not even whether its cell is there.
func TestRunFuelAheadOfCell(t *testing.T) {
	for _, x := range []impl.Ins{insLoad(1, 0), insStore(0, 0)} {
		f := progOf(2, blockOf(termBack(1), insConst(0, 8), x))
		runIs(t, runCase{f: f, how: impl.RnFuel, path: []int{0}}, 1)
		runIs(t, runCase{f: f, how: impl.RnCell, path: []int{0}}, 2)
	}
}

func runForever() impl.Fn {
	return progOf(2, blockOf(graphTo(1), insConst(0, 5)), blockOf(graphTo(1), insOut(0)))
}

func TestRunLoopsWithoutEnd(t *testing.T) {
	for _, fuel := range []int{0, 1, 2, 3, 4, 5, 100, 101, 4998, 4999, 5000, 5001, 5002, 10000, 40000, 1 << 32, 1<<32 + 3, math.MaxInt} {
		burnt := min(fuel, 5000)
		told := max(burnt-1, 0) / 2
		path := []int{0}
		if burnt >= 2 {
			path = append(path, slices.Repeat([]int{1}, burnt/2)...)
		}
		runIs(t, runCase{name: "a loop that tells", f: runForever(), told: slices.Repeat([]int{5}, told), how: impl.RnFuel, path: path}, fuel)
		runIs(t, runCase{name: "a block that follows itself", f: progOf(0, blockOf(graphTo(0))), how: impl.RnFuel, path: make([]int, burnt+1)}, fuel)
	}
}

// runCount counts down from what it reads, with so many places more at the beginning.
func runCount(more int) impl.Fn {
	f := progOf(5,
		blockOf(graphTo(1), insRead(0), insConst(1, -1)),
		withPhis(blockOf(termBranch(2, 2, 3)), phiOf(2, [2]int{0, 0}, [2]int{2, 3})),
		blockOf(graphTo(1), insAdd(3, 2, 1)),
		blockOf(termBack(0)))
	for range more {
		addPlace(&f, 0, insConst(4, 4))
	}
	return f
}

// A limit that is met exactly is accepted, one that is passed by one is refused.
func TestRunMaxFuelJustEnough(t *testing.T) {
	reads := []int{1665}
	for _, fuel := range []int{5000, 5001, 6000, math.MaxInt} {
		told, how, end := impl.Run(runCount(0), reads, fuel)
		if len(told) != 0 || how != impl.RnDone || end != 1665 {
			t.Errorf("fuel %d: Run is %v, %d, %d", fuel, told, how, end)
		}
		path := impl.Path(runCount(0), reads, fuel)
		if len(path) != 2+2*1665+1 || path[len(path)-1] != 3 {
			t.Errorf("fuel %d: Path has %d", fuel, len(path))
		}
		told, how, end = impl.Run(runCount(1), reads, fuel)
		if len(told) != 0 || how != impl.RnFuel || end != 0 {
			t.Errorf("fuel %d: Run of one more is %v, %d, %d", fuel, told, how, end)
		}
	}
	if _, how, _ := impl.Run(runCount(0), reads, 4999); how != impl.RnFuel {
		t.Errorf("fuel 4999: Run is %d", how)
	}
}

// runModel goes on place by place as the document has it: what comes next is told by a number of the block, and one in it.
func runModel(f impl.Fn, reads []int, fuel int) runCase {
	c := runCase{f: f, reads: reads, how: impl.RnFuel, path: []int{0}}
	values, cells, reads := map[int]int{}, map[int]int{}, slices.Clone(reads)
	b, i := 0, 0
	for c.need = 0; c.need < min(fuel, 5000); c.need++ {
		block := f.Blocks[b]
		if i < len(block.List) {
			if !modelPlace(&c, block.List[i], values, cells, &reads) {
				c.how = impl.RnCell
				c.need++
				return c
			}
			i++
			continue
		}
		to := block.Term.To
		if block.Term.Kind == impl.TmBack {
			c.how, c.end = impl.RnDone, values[block.Term.A]
			c.need++
			return c
		}
		if block.Term.Kind == impl.TmBranch && values[block.Term.A] == 0 {
			to = block.Term.Else
		}
		modelPhis(f.Blocks[to], b, values)
		b, i = to, 0
		c.path = append(c.path, b)
	}
	return c
}

func modelPhis(block impl.Block, from int, values map[int]int) {
	made := map[int]int{}
	for _, p := range block.Phis {
		for _, a := range p.Arms {
			if a.From == from {
				made[p.D] = values[a.V]
			}
		}
	}
	for d, x := range made {
		values[d] = x
	}
}

func modelPlace(c *runCase, x impl.Ins, values, cells map[int]int, reads *[]int) bool {
	a, b := values[x.A], values[x.B]
	there := a >= 0 && a < 8
	switch x.Op {
	case impl.InConst:
		values[x.D] = x.N
	case impl.InLoad:
		values[x.D] = cells[a]
		return there
	case impl.InStore:
		cells[a] = b
		return there
	case impl.InOut:
		c.told = append(c.told, a)
	case impl.InRead:
		values[x.D] = append(*reads, 0)[0]
		*reads = (*reads)[min(1, len(*reads)):]
	case impl.InCopy:
		values[x.D] = a
	default:
		values[x.D] = impl.Word(x.Op, a, b)
	}
	return true
}

func TestRunModelOfCases(t *testing.T) {
	for _, c := range runCases() {
		m := runModel(c.f, c.reads, 1000)
		m.name = c.name
		if m.need != c.need {
			t.Errorf("%s: the model needs %d, not %d", c.name, m.need, c.need)
		}
		runIs(t, m, 1000)
		runIs(t, m, c.need)
	}
}

// runReads draws what there is to read: small numbers, so that cells are often there.
func runReads(d *drawer) []int {
	reads := make([]int, d.draw(12))
	for i := range reads {
		reads[i] = d.draw(12) - 3
	}
	return reads
}

// runDrawn looks at programs that are drawn, well ones and ones that are but ShapeOk.
func runDrawn(seed uint64, times int, look func(f impl.Fn, reads []int)) {
	d := &drawer{x: seed}
	wellDrawn(seed, times, func(f impl.Fn) {
		look(f, runReads(d))
		for range 3 {
			g := fnCopy(f)
			for range 1 + d.draw(4) {
				checkChange(d, g)
			}
			if impl.ShapeOk(g) && !runTwicePhi(g) {
				look(g, runReads(d))
			}
		}
	})
}

// runTwicePhi tells of two phis of one block that make one value: the document does not say which of them counts.
func runTwicePhi(f impl.Fn) bool {
	for _, block := range f.Blocks {
		block.List = nil
		made := checkMakes(block)
		slices.Sort(made)
		if len(slices.Compact(made)) < len(block.Phis) {
			return true
		}
	}
	return false
}

func TestRunDrawnPrograms(t *testing.T) {
	var seen [3]int
	var told, ways int
	runDrawn(6, 60, func(f impl.Fn, reads []int) {
		c := runModel(f, reads, 300)
		runIs(t, c, 300)
		seen[c.how]++
		told, ways = told+len(c.told), ways+len(c.path)
	})
	if seen[impl.RnDone] < 200 || seen[impl.RnFuel] < 50 || seen[impl.RnCell] < 200 || told < 1000 || ways < 5000 {
		t.Error(seen, told, ways)
	}
}

func TestRunPromiseOfDrawnPrograms(t *testing.T) {
	seen := 0
	runDrawn(66, 12, func(f impl.Fn, reads []int) {
		c := runModel(f, reads, 150)
		if c.how != impl.RnFuel {
			seen++
			runPromise(t, c)
			return
		}
		for fuel := 0; fuel < 150; fuel += 7 {
			runBegins(t, c, fuel)
		}
	})
	if seen < 100 {
		t.Errorf("only %d programs came to an end", seen)
	}
}

func runBad(t *testing.T, f impl.Fn, reads []int, fuel int) {
	t.Helper()
	if told, how, end := impl.Run(f, reads, fuel); len(told) != 0 || how != impl.RnBad || end != 0 {
		t.Errorf("fuel %d: Run is %v, %d, %d: %+v", fuel, told, how, end, f)
	}
	if path := impl.Path(f, reads, fuel); len(path) != 0 {
		t.Errorf("fuel %d: Path is %v: %+v", fuel, path, f)
	}
}

func TestRunNotShapeOk(t *testing.T) {
	list := append(graphSpoiled(), impl.Fn{}, progOf(0, blockOf(termBack(0))), progOf(1, blockOf(termBack(0), insOut(1))))
	for _, op := range fnOpsNone {
		f := checkLoop()
		addPlace(&f, 3, impl.Ins{Op: op})
		list = append(list, f)
	}
	for _, kind := range fnKindsNone {
		list = append(list, progOf(1, blockOf(termBack(0), insOut(0)), blockOf(impl.Term{Kind: kind})))
	}
	for _, f := range list {
		if impl.ShapeOk(f) {
			t.Fatalf("nothing is wrong with %+v", f)
		}
		for _, fuel := range []int{0, 1, 100, math.MaxInt, -1, math.MinInt} {
			runBad(t, f, []int{1, 2}, fuel)
		}
	}
}

func TestRunFuelBelowNought(t *testing.T) {
	for _, c := range runCases() {
		for _, fuel := range []int{-1, -2, -5000, -1 << 32, math.MinInt, math.MinInt + 1} {
			runBad(t, c.f, c.reads, fuel)
		}
	}
}

// Promise 21: neither program nor reads, nor the spare room behind them, are written into, and none of it counts.
func TestRunWritesIntoNothing(t *testing.T) {
	for _, c := range runCases() {
		c.f = fnRoomy(c.f)
		c.reads = append(slices.Clone(c.reads), 77, 78)[:len(c.reads)]
		before, reads := fnWhole(c.f), slices.Clone(c.reads[:cap(c.reads)])
		runIs(t, c, 1000)
		runIs(t, c, 1000)
		if !reflect.DeepEqual(fnWhole(c.f), before) || !slices.Equal(c.reads[:cap(c.reads)], reads) {
			t.Errorf("%s: an argument was written into", c.name)
		}
	}
}

func TestRunAnswersAreNew(t *testing.T) {
	f, reads := runEcho(), []int{3, -2, 8, 0}
	want, ways := []int{3, -2, 8}, []int{0, 1, 2, 1, 2, 1, 2, 1, 3}
	for range 2 {
		told, _, _ := impl.Run(f, reads, 100)
		path := impl.Path(f, reads, 100)
		if !slices.Equal(told, want) || !slices.Equal(path, ways) {
			t.Errorf("%v, %v", told, path)
		}
		fnScribble(told)
		fnScribble(path)
		if !slices.Equal(reads, []int{3, -2, 8, 0}) || !reflect.DeepEqual(f, runEcho()) {
			t.Error("an answer shares memory with an argument")
		}
	}
}
