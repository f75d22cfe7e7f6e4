package tests

import (
	"math"
	"slices"
	"testing"

	"loop.example/g00192/impl"
)

func maSet(r, n int) impl.Step { return impl.Step{Op: impl.MaSet, R: r, N: n} }

func maMove(r, a int) impl.Step { return impl.Step{Op: impl.MaMove, R: r, A: a} }

func maGet(r, slot int) impl.Step { return impl.Step{Op: impl.MaGet, R: r, N: slot} }

func maPut(slot, a int) impl.Step { return impl.Step{Op: impl.MaPut, A: a, N: slot} }

func maLoad(r, a int) impl.Step { return impl.Step{Op: impl.MaLoad, R: r, A: a} }

func maStore(a, b int) impl.Step { return impl.Step{Op: impl.MaStore, A: a, B: b} }

func maOut(a int) impl.Step { return impl.Step{Op: impl.MaOut, A: a} }

func maRead(r int) impl.Step { return impl.Step{Op: impl.MaRead, R: r} }

func maJump(to int) impl.Step { return impl.Step{Op: impl.MaJump, N: to} }

func maZero(a, to int) impl.Step { return impl.Step{Op: impl.MaZero, A: a, N: to} }

func maEnd(a int) impl.Step { return impl.Step{Op: impl.MaEnd, A: a} }

func maWord(op, r, a, b int) impl.Step { return impl.Step{Op: 11 + op, R: r, A: a, B: b} }

func codeOf(list ...impl.Step) []impl.Step { return list }

// A machineCase is a code that is MachineOk and all that comes of it with fuel enough; need is the least that is.
type machineCase struct {
	name  string
	list  []impl.Step
	reads []int
	told  []int
	how   int
	end   int
	uses  []int
	need  int
}

// machineFact counts down from what it reads, and multiplies.
func machineFact() []impl.Step {
	return codeOf(maRead(0), maSet(1, 1), maSet(2, 1),
		maZero(0, 8), maWord(impl.OpMul, 1, 1, 0), maWord(impl.OpSub, 0, 0, 2), maOut(1), maJump(3),
		maEnd(1))
}

// machineNest has for each of 1 to what it reads a row that is told down to 1; the outer count stands in slot 39.
func machineNest() []impl.Step {
	return codeOf(maRead(7), maSet(6, 1),
		maPut(39, 7), maZero(7, 11),
		maOut(7), maWord(impl.OpSub, 7, 7, 6), maZero(7, 8), maJump(4),
		maGet(7, 39), maWord(impl.OpSub, 7, 7, 6), maJump(2),
		maPut(0, 6), maGet(5, 39), maOut(5), maEnd(6))
}

// machineChoice tells 5 of what is not 0, and 6 of 0.
func machineChoice() []impl.Step {
	return codeOf(maRead(3), maZero(3, 4), maSet(0, 5), maJump(5), maSet(0, 6), maOut(0), maEnd(3))
}

// machineEcho reads, tells and keeps in a slot till it reads 0.
func machineEcho() []impl.Step {
	return codeOf(maRead(1), maZero(1, 5), maOut(1), maPut(3, 1), maJump(0), maGet(2, 3), maEnd(2))
}

func machineOrdinary() []machineCase {
	return []machineCase{
		{"one step", codeOf(maEnd(0)), nil, nil, impl.RnDone, 0, nil, 1},
		{"one step, the last register", codeOf(maEnd(7)), []int{5}, nil, impl.RnDone, 0, nil, 1},
		{"a row", codeOf(maSet(0, 2), maSet(1, 3), maWord(impl.OpAdd, 2, 0, 1), maOut(2), maMove(3, 2), maEnd(3)), nil, []int{5}, impl.RnDone, 5, nil, 6},
		{"a row of reads", codeOf(maRead(7), maRead(6), maRead(5), maOut(5), maOut(6), maOut(7), maEnd(6)), []int{8, -9, 10}, []int{10, -9, 8}, impl.RnDone, -9, nil, 7},
		{"a row that reads less than there is", codeOf(maRead(0), maEnd(0)), []int{8, -9, 10}, nil, impl.RnDone, 8, nil, 2},
		{"a choice, not 0", machineChoice(), []int{4}, []int{5}, impl.RnDone, 4, nil, 6},
		{"a choice, 0", machineChoice(), []int{0, 4}, []int{6}, impl.RnDone, 0, nil, 5},
		{"a choice, below 0", machineChoice(), []int{-1}, []int{5}, impl.RnDone, -1, nil, 6},
		{"a choice, the least number", machineChoice(), []int{math.MinInt}, []int{5}, impl.RnDone, math.MinInt, nil, 6},
		{"a choice, a number of 33 bits", machineChoice(), []int{1 << 32}, []int{5}, impl.RnDone, 1 << 32, nil, 6},
		{"a loop", machineFact(), []int{4}, []int{4, 12, 24, 24}, impl.RnDone, 24, nil, 25},
		{"a loop never gone through", machineFact(), nil, nil, impl.RnDone, 1, nil, 5},
		{"a loop in a loop", machineNest(), []int{3}, []int{3, 2, 1, 2, 1, 1, 0}, impl.RnDone, 1, []int{0, 39}, 2 + 3*5 + 6*3 + 3 + 6},
		{"a loop in a loop, once", machineNest(), []int{1}, []int{1, 0}, impl.RnDone, 1, []int{0, 39}, 2 + 5 + 3 + 6},
		{"a loop in a loop, never", machineNest(), nil, []int{0}, impl.RnDone, 1, []int{0, 39}, 8},
		{"reads and tells", machineEcho(), []int{4, 9}, []int{4, 9}, impl.RnDone, 9, []int{3}, 14},
		{"reads and tells till a 0", machineEcho(), []int{4, 0, 9}, []int{4}, impl.RnDone, 4, []int{3}, 9},
		{"reads and tells nothing", machineEcho(), []int{}, nil, impl.RnDone, 0, []int{3}, 4},
		{"a jump over what follows", codeOf(maSet(0, 1), maJump(3), maOut(0), maEnd(0)), nil, nil, impl.RnDone, 1, nil, 3},
		{"a jump back, the last step", codeOf(maJump(2), maEnd(1), maSet(1, 4), maJump(1)), nil, nil, impl.RnDone, 4, nil, 4},
		{"a jump to the next step", codeOf(maJump(1), maEnd(0)), nil, nil, impl.RnDone, 0, nil, 2},
		{"a choice whose ways meet at once", codeOf(maRead(0), maZero(0, 2), maEnd(0)), []int{3}, nil, impl.RnDone, 3, nil, 3},
	}
}

// machineOps has each op of the machine, and each of chapter 1, one by one.
func machineOps() []machineCase {
	list := []machineCase{
		{"set", codeOf(maSet(4, 12), maOut(4), maSet(4, -12), maEnd(4)), nil, []int{12}, impl.RnDone, -12, nil, 4},
		{"set of the least and the greatest", codeOf(maSet(0, math.MinInt), maSet(7, math.MaxInt), maOut(7), maEnd(0)), nil, []int{math.MaxInt}, impl.RnDone, math.MinInt, nil, 4},
		{"move", codeOf(maSet(4, 12), maMove(5, 4), maSet(4, 13), maOut(4), maEnd(5)), nil, []int{13}, impl.RnDone, 12, nil, 5},
		{"move to itself", codeOf(maSet(4, 12), maMove(4, 4), maEnd(4)), nil, nil, impl.RnDone, 12, nil, 3},
		{"put and get", codeOf(maSet(4, 12), maPut(20, 4), maSet(4, 13), maGet(5, 20), maOut(4), maEnd(5)), nil, []int{13}, impl.RnDone, 12, []int{20}, 6},
		{"get of what nobody put", codeOf(maSet(4, 12), maGet(4, 9), maEnd(4)), nil, nil, impl.RnDone, 0, []int{9}, 3},
		{"put of what nobody gets", codeOf(maSet(4, 12), maPut(9, 4), maEnd(4)), nil, nil, impl.RnDone, 12, []int{9}, 3},
		{"store and load", codeOf(maSet(4, 7), maSet(5, 30), maStore(4, 5), maSet(5, 31), maLoad(6, 4), maOut(5), maEnd(6)), nil, []int{31}, impl.RnDone, 30, nil, 7},
		{"load into the register that tells the cell", codeOf(maSet(4, 7), maSet(5, 30), maStore(4, 5), maLoad(4, 4), maEnd(4)), nil, nil, impl.RnDone, 30, nil, 5},
		{"store of what tells the cell", codeOf(maSet(4, 6), maStore(4, 4), maLoad(0, 4), maEnd(0)), nil, nil, impl.RnDone, 6, nil, 4},
		{"load of what nobody stored", codeOf(maSet(1, 3), maLoad(1, 1), maEnd(1)), nil, nil, impl.RnDone, 0, nil, 3},
		{"out", codeOf(maOut(3), maSet(3, -5), maOut(3), maOut(3), maEnd(0)), nil, []int{0, -5, -5}, impl.RnDone, 0, nil, 5},
		{"read", codeOf(maRead(3), maOut(3), maRead(3), maEnd(3)), []int{7, 8}, []int{7}, impl.RnDone, 8, nil, 4},
		{"reads that run out: 0, not what was there", codeOf(maRead(3), maOut(3), maRead(3), maOut(3), maRead(3), maEnd(3)), []int{7}, []int{7, 0}, impl.RnDone, 0, nil, 6},
		{"end in the midst", codeOf(maSet(2, 4), maEnd(2), maOut(2), maEnd(1)), nil, nil, impl.RnDone, 4, nil, 2},
	}
	for op, want := range map[int][2]int{
		impl.OpAdd: {4, -14}, impl.OpSub: {-14, 4}, impl.OpMul: {-45, 45}, impl.OpAnd: {-5 & 9, -5 & -9}, impl.OpOr: {-5 | 9, -5 | -9},
		impl.OpXor: {-5 ^ 9, -5 ^ -9}, impl.OpLess: {1, 0}, impl.OpSame: {0, 0}, impl.OpLeft: {-5 << 9, -5 << 55}, impl.OpRight: {-5 >> 9, -5 >> 55},
	} {
		list = append(list, machineCase{impl.WordName(op),
			codeOf(maSet(0, -5), maSet(1, 9), maSet(2, -9), maWord(op, 3, 0, 1), maOut(3), maWord(op, 0, 0, 2), maEnd(0)), nil, want[:1], impl.RnDone, want[1], nil, 7})
	}
	return list
}

// machineWraps has words that do not fit into 64 bits, and shifts that are taken modulo 64.
func machineWraps() []machineCase {
	two := func(name string, op, a, b, want int) machineCase {
		return machineCase{name, codeOf(maSet(6, a), maSet(7, b), maWord(op, 6, 6, 7), maOut(6), maEnd(6)), nil, []int{want}, impl.RnDone, want, nil, 5}
	}
	return []machineCase{
		two("one more than the greatest", impl.OpAdd, math.MaxInt, 1, math.MinInt),
		two("one less than the least", impl.OpSub, math.MinInt, 1, math.MaxInt),
		two("the least less itself", impl.OpSub, math.MinInt, math.MinInt, 0),
		two("nought less the least", impl.OpSub, 0, math.MinInt, math.MinInt),
		two("the greatest by itself", impl.OpMul, math.MaxInt, math.MaxInt, 1),
		two("the least by -1", impl.OpMul, math.MinInt, -1, math.MinInt),
		two("the least less than the greatest", impl.OpLess, math.MinInt, math.MaxInt, 1),
		two("a shift left by 65", impl.OpLeft, -3, 65, -6),
		two("a shift left by -1", impl.OpLeft, 3, -1, math.MinInt),
		two("a shift right by 64", impl.OpRight, -3, 64, -3),
		two("a shift right by -1", impl.OpRight, math.MinInt, -1, -1),
	}
}

// machineCell has one load and one store of the cell, behind something that is told.
func machineCell(cell int) []machineCase {
	load := machineCase{"load of a cell that is none", codeOf(maRead(0), maSet(1, 9), maOut(1), maLoad(1, 0), maOut(1), maEnd(1)), []int{cell}, []int{9}, impl.RnCell, 0, nil, 4}
	store := machineCase{"store to a cell that is none", codeOf(maRead(0), maSet(1, 9), maOut(1), maStore(0, 1), maOut(0), maLoad(2, 0), maEnd(2)), []int{cell}, []int{9}, impl.RnCell, 0, nil, 4}
	if cell >= 0 && cell < 8 {
		load.told, load.how, load.need = []int{9, 0}, impl.RnDone, 6
		store.told, store.how, store.end, store.need = []int{9, cell}, impl.RnDone, 9, 7
	}
	return []machineCase{load, store}
}

func machineCells() []machineCase {
	list := []machineCase{}
	for _, cell := range []int{0, 1, 2, 3, 4, 5, 6, 7, 8, 9, 10, 39, 40, 256, 1 << 32, 1<<32 + 1, math.MaxInt, -1, -2, -8, math.MinInt} {
		list = append(list, machineCell(cell)...)
	}
	return list
}

// machineAll tells all registers, then what all slots and all cells have.
func machineAll() []impl.Step {
	list := []impl.Step{}
	for r := range 8 {
		list = append(list, maOut(r))
	}
	for s := range 40 {
		list = append(list, maGet(0, s), maOut(0))
	}
	for c := range 8 {
		list = append(list, maSet(0, c), maLoad(0, 0), maOut(0))
	}
	return list
}

// machineFilled has in each slot, in each cell and then in each register a number of its own: registers from 1 on, which is a cell, too.
func machineFilled() []impl.Step {
	list := []impl.Step{}
	for s := range 40 {
		list = append(list, maSet(0, 1000+s), maPut(s, 0))
	}
	for c := range 8 {
		list = append(list, maSet(0, c), maSet(1, 2000+c), maStore(0, 1))
	}
	for r := range 8 {
		list = append(list, maSet(r, (r+1)%8))
	}
	return list
}

// machineWhole has all that there is: all is 0 at first, and what is filled in is all apart.
func machineWhole() []machineCase {
	all, filled := append(machineAll(), maEnd(7)), slices.Concat(machineFilled(), machineAll(), codeOf(maEnd(6)))
	told := []int{1, 2, 3, 4, 5, 6, 7, 0}
	for s := range 40 {
		told = append(told, 1000+s)
	}
	for c := range 8 {
		told = append(told, 2000+c)
	}
	return []machineCase{
		{"all is filled in, and all is told", filled, nil, told, impl.RnDone, 7, homeBelow(40), len(filled)},
		{"all is 0 at first", all, []int{5}, make([]int, 56), impl.RnDone, 0, homeBelow(40), len(all)},
	}
}

func machineCases() []machineCase {
	return slices.Concat(machineOrdinary(), machineOps(), machineWraps(), machineCells(), machineWhole())
}

func wantStep(t *testing.T, s impl.Step, n int, want bool) {
	t.Helper()
	if got := impl.StepOk(s, n); got != want {
		t.Errorf("StepOk of %+v in a code of %d is %t", s, n, got)
	}
}

func wantMachine(t *testing.T, name string, list []impl.Step, want bool) {
	t.Helper()
	if got := impl.MachineOk(list); got != want {
		t.Errorf("%s: MachineOk is %t: %+v", name, got, list)
	}
}

func wantUses(t *testing.T, name string, list []impl.Step, want []int) {
	t.Helper()
	if got := impl.Uses(list); !slices.Equal(got, want) {
		t.Errorf("%s: Uses is %v, not %v: %+v", name, got, want, list)
	}
}

func machineIs(t *testing.T, c machineCase, fuel int) {
	t.Helper()
	told, how, end := impl.RunMachine(c.list, c.reads, fuel)
	if !slices.Equal(told, c.told) || how != c.how || end != c.end {
		t.Errorf("%s, fuel %d: RunMachine is %v, %d, %d, not %v, %d, %d: %+v", c.name, fuel, told, how, end, c.told, c.how, c.end, c.list)
	}
}

func lookMachine(t *testing.T, c machineCase) {
	t.Helper()
	wantMachine(t, c.name, c.list, true)
	for _, s := range c.list {
		wantStep(t, s, len(c.list), true)
	}
	wantUses(t, c.name, c.list, c.uses)
	machineIs(t, c, 1000)
}

func lookMachines(t *testing.T, cases []machineCase) {
	t.Helper()
	for _, c := range cases {
		lookMachine(t, c)
	}
}

func TestMachineNumbers(t *testing.T) {
	if impl.MaxCode != 900 {
		t.Error(impl.MaxCode)
	}
	for i, op := range []int{impl.MaSet, impl.MaMove, impl.MaGet, impl.MaPut, impl.MaLoad, impl.MaStore, impl.MaOut, impl.MaRead, impl.MaJump, impl.MaZero, impl.MaEnd} {
		if op != i+1 {
			t.Error(i, op)
		}
	}
}

func TestMachineOrdinary(t *testing.T) { lookMachines(t, machineOrdinary()) }

func TestMachineOps(t *testing.T) { lookMachines(t, machineOps()) }

func TestMachineWraps(t *testing.T) { lookMachines(t, machineWraps()) }

func TestMachineCells(t *testing.T) { lookMachines(t, machineCells()) }

func TestMachineWhole(t *testing.T) { lookMachines(t, machineWhole()) }

// A code that has no end but tells: what is read is told a step later, and 0 for ever when there is nothing left.
func TestMachineLastStepJumpsBack(t *testing.T) {
	list := codeOf(maOut(1), maRead(1), maZero(1, 3), maJump(0))
	whole := []int{0, 6, 7, 0, 0}
	for fuel, count := range []int{0, 1, 1, 1, 1, 2, 2, 2, 2, 3, 3, 3, 3, 4, 4, 4, 4, 5} {
		machineIs(t, machineCase{name: "the last step jumps back", list: list, reads: []int{6, 7, 0}, told: whole[:count], how: impl.RnFuel}, fuel)
	}
}

// A machineState is a machine by the words of the document, and the place at which it is.
type machineState struct {
	regs, slots, cells map[int]int
	reads, told        []int
	at                 int
}

// machineStep does one step; it tells what it comes to, and whether it is the last.
func machineStep(m *machineState, s impl.Step) (how, end int, over bool) {
	a, b := m.regs[s.A], m.regs[s.B]
	there := a >= 0 && a <= 7
	m.at++
	switch s.Op {
	case impl.MaSet:
		m.regs[s.R] = s.N
	case impl.MaMove:
		m.regs[s.R] = a
	case impl.MaGet:
		m.regs[s.R] = m.slots[s.N]
	case impl.MaPut:
		m.slots[s.N] = a
	case impl.MaLoad:
		m.regs[s.R] = m.cells[a]
		return impl.RnCell, 0, !there
	case impl.MaStore:
		m.cells[a] = b
		return impl.RnCell, 0, !there
	case impl.MaOut:
		m.told = append(m.told, a)
	case impl.MaRead:
		m.regs[s.R] = append(m.reads, 0)[0]
		m.reads = m.reads[min(1, len(m.reads)):]
	case impl.MaJump:
		m.at = s.N
	case impl.MaZero:
		if a == 0 {
			m.at = s.N
		}
	case impl.MaEnd:
		return impl.RnDone, a, true
	default:
		m.regs[s.R] = impl.Word(s.Op-11, a, b)
	}
	return 0, 0, false
}

// machineModel runs a code that is MachineOk by the words, and fails where it would leave it; need is what it took.
func machineModel(t *testing.T, list []impl.Step, reads []int, fuel int) machineCase {
	t.Helper()
	c := machineCase{name: "by the words", list: list, reads: reads, how: impl.RnFuel, uses: usesModel(list)}
	m := &machineState{regs: map[int]int{}, slots: map[int]int{}, cells: map[int]int{}, reads: slices.Clone(reads)}
	for c.need = 0; c.need < min(fuel, 40000); {
		if m.at < 0 || m.at >= len(list) {
			t.Fatalf("at place %d of %+v", m.at, list)
		}
		c.need++
		if how, end, over := machineStep(m, list[m.at]); over {
			c.how, c.end = how, end
			break
		}
	}
	c.told = m.told
	return c
}

func usesModel(list []impl.Step) []int {
	slots := []int{}
	for s := range 40 {
		if slices.ContainsFunc(list, func(x impl.Step) bool { return (x.Op == 3 || x.Op == 4) && x.N == s }) {
			slots = append(slots, s)
		}
	}
	return slots
}

// A stepKind tells which registers an op names, and what its N is: a number, a slot or a place of the code.
type stepKind struct {
	op      int
	r, a, b bool
	n       string
}

func stepKinds() []stepKind {
	list := []stepKind{
		{1, true, false, false, "number"}, {2, true, true, false, ""}, {3, true, false, false, "slot"}, {4, false, true, false, "slot"},
		{5, true, true, false, ""}, {6, false, true, true, ""}, {7, false, true, false, ""}, {8, true, false, false, ""},
		{9, false, false, false, "place"}, {10, false, true, false, "place"}, {11, false, true, false, ""},
	}
	for op := 12; op <= 21; op++ {
		list = append(list, stepKind{op, true, true, true, ""})
	}
	return list
}

func stepModel(s impl.Step, n int) bool {
	for _, k := range stepKinds() {
		if k.op == s.Op {
			return stepRegOk(k.r, s.R) && stepRegOk(k.a, s.A) && stepRegOk(k.b, s.B) && stepNumOk(k.n, s.N, n)
		}
	}
	return false
}

func stepRegOk(named bool, x int) bool {
	if !named {
		return x == 0
	}
	return slices.Contains([]int{0, 1, 2, 3, 4, 5, 6, 7}, x)
}

func stepNumOk(kind string, x, n int) bool {
	switch kind {
	case "number":
		return true
	case "slot":
		return 0 <= x && x <= 39
	case "place":
		return 0 <= x && x < n
	}
	return x == 0
}

func machineOkModel(list []impl.Step) bool {
	for _, s := range list {
		if !stepModel(s, len(list)) {
			return false
		}
	}
	return len(list) >= 1 && len(list) <= 900 && slices.Contains([]int{9, 11}, list[len(list)-1].Op)
}

func TestMachineModelOfCases(t *testing.T) {
	for _, c := range machineCases() {
		m := machineModel(t, c.list, c.reads, 1000)
		if m.need != c.need || !slices.Equal(m.told, c.told) || m.how != c.how || m.end != c.end || !slices.Equal(m.uses, c.uses) || !machineOkModel(c.list) {
			t.Errorf("%s: the model needs %d, not %d, and has %v, %d, %d", c.name, m.need, c.need, m.told, m.how, m.end)
		}
	}
}

// Each number that a step has, at the edges and beyond: all of them together, for codes of any length.
func TestMachineStepsOfAllKinds(t *testing.T) {
	ops := []int{math.MinInt, math.MinInt + 11, math.MinInt + 12, -12, -1 << 32, 1 << 32, 1<<32 + 1, math.MaxInt}
	for op := -3; op <= 40; op++ {
		ops = append(ops, op)
	}
	regs := []int{-1, 0, 7, 8}
	right, wrong := 0, 0
	for _, n := range []int{math.MinInt, -900, -1, 0, 1, 2, 39, 41, 900, 901, math.MaxInt} {
		for _, op := range ops {
			for _, num := range []int{math.MinInt, -1, 0, 1, 39, 40, n - 1, n, n + 1, math.MaxInt} {
				for _, r := range regs {
					for _, a := range regs {
						for _, b := range regs {
							s := impl.Step{Op: op, R: r, A: a, B: b, N: num}
							want := stepModel(s, n)
							wantStep(t, s, n, want)
							right, wrong = right+flag(want), wrong+flag(!want)
						}
					}
				}
			}
		}
	}
	if right < 1000 || wrong < 100000 {
		t.Error(right, wrong)
	}
}

// stepOfKind is a step that is StepOk, with all that its op names not zero, for a code of at least six steps.
func stepOfKind(k stepKind) impl.Step {
	return impl.Step{Op: k.op, R: only(k.r, 1), A: only(k.a, 2), B: only(k.b, 3), N: only(k.n != "", 5)}
}

// Registers that are none, at each of R, A and B that an op names; and what an op does not name, and is not zero.
func TestMachineRegistersThatAreNone(t *testing.T) {
	for _, k := range stepKinds() {
		wantStep(t, stepOfKind(k), 6, true)
		for _, part := range []struct {
			named bool
			at    func(s *impl.Step) *int
		}{
			{k.r, func(s *impl.Step) *int { return &s.R }},
			{k.a, func(s *impl.Step) *int { return &s.A }},
			{k.b, func(s *impl.Step) *int { return &s.B }},
		} {
			for _, x := range []int{math.MinInt, -8, -1, 0, 1, 2, 3, 4, 5, 6, 7, 8, 9, 15, 39, 40, 256, 1 << 32, math.MaxInt} {
				s := stepOfKind(k)
				*part.at(&s) = x
				want := x == 0 || part.named && x >= 1 && x <= 7
				wantStep(t, s, 6, want)
				list := codeOf(maOut(0), s, maSet(0, 1), maSet(0, 2), maSet(0, 3), maEnd(0))
				wantMachine(t, "a register at an edge", list, want)
				if !want {
					machineNothing(t, "a register that is none", list)
				}
			}
		}
	}
}

// What N is: any number, a slot, a place; or nothing.
func TestMachineNumbersThatAreNone(t *testing.T) {
	numbers := []int{math.MinInt, -40, -1, 0, 1, 5, 6, 7, 8, 38, 39, 40, 41, 899, 900, 901, 1 << 32, math.MaxInt}
	for _, k := range stepKinds() {
		for _, n := range []int{math.MinInt, -6, -1, 0, 1, 2, 6, 40, 899, 900, 901, 1 << 32, math.MaxInt} {
			for _, x := range append(numbers, n-1, n) {
				s := stepOfKind(k)
				s.N = x
				want := x == 0
				switch k.n {
				case "number":
					want = true
				case "slot":
					want = x >= 0 && x < impl.MaxHomes
				case "place":
					want = x >= 0 && x < n
				}
				wantStep(t, s, n, want)
			}
		}
	}
}

func TestMachineOpsThatAreNone(t *testing.T) {
	for op := -30; op <= 60; op++ {
		wantStep(t, impl.Step{Op: op}, 1, op >= 1 && op <= 21)
	}
	for _, op := range []int{0, -1, 22, 23, -11, -21, 1 << 32, 1<<32 + 11, math.MinInt, math.MinInt + 11, math.MaxInt} {
		for i := range 4 {
			list := codeOf(maOut(0), maPut(1, 0), maSet(0, 1), maEnd(0))
			list[i] = impl.Step{Op: op}
			machineNothing(t, "an op that is none", list)
		}
		machineNothing(t, "an op that is none alone", codeOf(impl.Step{Op: op}))
	}
}

// Of a code with no step, or fewer, no place is one; whatever names no place is what it was.
func TestMachineStepOfNoCode(t *testing.T) {
	for _, n := range []int{0, -1, -2, -900, -1 << 32, math.MinInt} {
		for _, k := range stepKinds() {
			wantStep(t, stepOfKind(k), n, k.n != "place")
			for _, to := range []int{0, 1, -1, n, n - 1, n + 1} {
				wantStep(t, maJump(to), n, false)
				wantStep(t, maZero(0, to), n, false)
			}
		}
	}
}

func TestMachineLastStep(t *testing.T) {
	for _, k := range stepKinds() {
		for _, s := range []impl.Step{{Op: k.op}, stepOfKind(k)} {
			list := codeOf(maSet(0, 1), maSet(0, 2), maOut(0), maSet(0, 4), maJump(5), s)
			wantMachine(t, "the last step", list, k.op == impl.MaJump || k.op == impl.MaEnd)
			if k.op != impl.MaJump && k.op != impl.MaEnd {
				machineNothing(t, "the last step is neither a jump nor an end", list)
			}
			wantMachine(t, "an end behind the last step", append(list, maEnd(0)), true)
			wantMachine(t, "a jump behind the last step", append(list, maJump(6)), true)
		}
		wantMachine(t, "one step", codeOf(impl.Step{Op: k.op}), k.op == impl.MaJump || k.op == impl.MaEnd)
	}
	machineNothing(t, "a MaZero that jumps always, the last step", codeOf(maSet(1, 1), maEnd(0), maZero(0, 0)))
	machineNothing(t, "an end ahead of the last step", codeOf(maEnd(0), maOut(0)))
	machineNothing(t, "a jump ahead of the last step", codeOf(maJump(0), maOut(0)))
}

// machineNothing is what is told of a list that is not MachineOk, whatever there is of fuel.
func machineNothing(t *testing.T, name string, list []impl.Step) {
	t.Helper()
	wantMachine(t, name, list, false)
	wantUses(t, name, list, nil)
	for _, fuel := range []int{0, 1, 100, 40000, math.MaxInt, -1, math.MinInt} {
		machineIs(t, machineCase{name: name, list: list, reads: []int{1, 2}, how: impl.RnBad}, fuel)
	}
}

func TestMachineNoStep(t *testing.T) {
	machineNothing(t, "nil", nil)
	machineNothing(t, "no step", []impl.Step{})
	machineNothing(t, "no step, with room behind", codeOf(maEnd(0), maEnd(1))[:0])
}

// machineLong is a row of so many steps: the first jumps to the last one but one, the last one ends.
func machineLong(n int) []impl.Step {
	list := codeOf(maJump(n - 2))
	for len(list) < n-1 {
		list = append(list, maPut(len(list)%40, 1))
	}
	return append(list, maEnd(1))
}

// Limits: MaxCode steps are accepted, one more is refused, whatever they are.
func TestMachineLimits(t *testing.T) {
	for _, n := range []int{899, 900} {
		lookMachine(t, machineCase{"a long code", machineLong(n), nil, nil, impl.RnDone, 0, homeBelow(40), 3})
		row := append(slices.Repeat(codeOf(maOut(0)), n-1), maEnd(0))
		lookMachine(t, machineCase{"a long row", row, nil, make([]int, n-1), impl.RnDone, 0, nil, n})
		far := append(slices.Repeat(codeOf(maZero(0, n-1)), n-1), maJump(n-2))
		wantMachine(t, "jumps to the last step", far, true)
		for _, to := range []int{n, n + 1, -1, 900, 901} {
			spoilt := slices.Clone(far)
			spoilt[n/2].N = to
			machineNothing(t, "a jump behind the last step", spoilt)
		}
	}
	for _, n := range []int{901, 902, 1000, 1800, 5000} {
		machineNothing(t, "too many steps", machineLong(n))
		machineNothing(t, "too many ends", slices.Repeat(codeOf(maEnd(0)), n))
	}
}

// One step that is wrong is enough, wherever it stands: also where nobody comes.
func TestMachineWrongAnywhere(t *testing.T) {
	for _, c := range slices.Concat(machineOrdinary(), machineOps()) {
		for i := range c.list {
			n := len(c.list)
			for _, s := range []impl.Step{{}, {Op: 22}, {Op: -1}, maJump(n), maJump(-1), maZero(0, n), maZero(8, 0), maEnd(8), maEnd(-1), maOut(-1), maGet(0, 40), maPut(-1, 0), maPut(40, 0),
				maMove(8, 0), maMove(0, 8), {Op: 1, A: 1}, {Op: 1, B: 1}, {Op: 7, R: 1}, {Op: 9, R: 1}, {Op: 9, A: 1}, {Op: 11, N: 1}, {Op: 12, N: 1}, {Op: 21, R: 8}} {
				list := slices.Clone(c.list)
				list[i] = s
				machineNothing(t, c.name+" spoilt", list)
			}
		}
		if len(c.list) > 1 {
			short := c.list[:len(c.list)-1]
			wantMachine(t, c.name+" without its last step", short, machineOkModel(short))
		}
	}
}

// machineBegins looks at a run that has not fuel enough: it tells the beginning of what the whole tells, and
// with one more of fuel no less than before.
func machineBegins(t *testing.T, c machineCase, fuel int) {
	t.Helper()
	told, how, end := impl.RunMachine(c.list, c.reads, fuel)
	if how != impl.RnFuel || end != 0 || !isBeginning(told, c.told) {
		t.Errorf("%s, fuel %d of %d: RunMachine is %v, %d, %d: %+v", c.name, fuel, c.need, told, how, end, c.list)
	}
	more, _, _ := impl.RunMachine(c.list, c.reads, fuel+1)
	if len(more) < len(told) || len(more) > len(told)+1 {
		t.Errorf("%s, fuel %d of %d: %v are told, with one more %v", c.name, fuel, c.need, told, more)
	}
}

// machinePromise is promise 14 of one code that comes to an end.
func machinePromise(t *testing.T, c machineCase) {
	t.Helper()
	for fuel := range c.need {
		machineBegins(t, c, fuel)
		machineIs(t, machineModel(t, c.list, c.reads, fuel), fuel)
	}
	for _, more := range []int{0, 1, 2, 3, 4, 5, 10, 100} {
		machineIs(t, c, c.need+more)
	}
	for _, fuel := range []int{4999, 5000, 5001, 39999, 40000, 40001, 1 << 32, math.MaxInt} {
		machineIs(t, c, fuel)
	}
}

// Promise 14: with more fuel than it needs a machine tells the same; it never leaves its code.
func TestMachinePromise(t *testing.T) {
	for _, c := range machineCases() {
		machinePromise(t, c)
	}
}

// What is told with each fuel: each step takes one, the end, too.
func TestMachineFuelByFuel(t *testing.T) {
	list := codeOf(maOut(0), maSet(0, 3), maOut(0), maJump(4), maZero(7, 5), maMove(1, 0), maOut(1), maEnd(1))
	whole := []int{0, 3, 3}
	for fuel, count := range []int{0, 1, 1, 2, 2, 2, 2, 3} {
		machineIs(t, machineCase{name: "fuel by fuel", list: list, told: whole[:count], how: impl.RnFuel}, fuel)
	}
	machineIs(t, machineCase{name: "just enough", list: list, told: whole, how: impl.RnDone, end: 3}, 8)
}

// A step that has no fuel left is not looked at: not even whether its cell is there.
func TestMachineFuelAheadOfCell(t *testing.T) {
	for _, s := range []impl.Step{maLoad(1, 0), maStore(0, 0)} {
		list := codeOf(maSet(0, 8), s, maEnd(0))
		machineIs(t, machineCase{list: list, how: impl.RnFuel}, 1)
		machineIs(t, machineCase{list: list, how: impl.RnCell}, 2)
	}
}

func TestMachineLoopsWithoutEnd(t *testing.T) {
	for _, fuel := range []int{0, 1, 2, 3, 4, 5, 100, 101, 5000, 5001, 39998, 39999, 40000, 40001, 40002, 80000, 1 << 32, 1<<32 + 3, math.MaxInt} {
		burnt := min(fuel, 40000)
		machineIs(t, machineCase{name: "a step that jumps to itself", list: codeOf(maJump(0)), how: impl.RnFuel}, fuel)
		machineIs(t, machineCase{name: "a last step that jumps to itself", list: codeOf(maOut(0), maJump(1)), told: make([]int, min(fuel, 1)), how: impl.RnFuel}, fuel)
		machineIs(t, machineCase{name: "a MaZero that goes to itself", list: codeOf(maZero(7, 0), maEnd(0)), how: impl.RnFuel}, fuel)
		machineIs(t, machineCase{name: "a loop that tells", list: codeOf(maOut(0), maJump(0)), told: make([]int, (burnt+1)/2), how: impl.RnFuel}, fuel)
	}
	wantMachine(t, "a step that jumps to itself", codeOf(maJump(0)), true)
	machineNothing(t, "a step that jumps behind itself", codeOf(maJump(1)))
	machineNothing(t, "a step that jumps ahead of itself", codeOf(maJump(-1)))
}

// machineCount counts down from what it reads, with so many steps more at the beginning: it needs 4 and these, and 3 for each.
func machineCount(more int) []impl.Step {
	list := append(slices.Repeat(codeOf(maSet(2, 5)), more), maRead(0), maSet(1, 1), maZero(0, more+5), maWord(impl.OpSub, 0, 0, 1), maJump(more+2))
	return append(list, maEnd(2))
}

// A limit that is met exactly is accepted, one that is passed by one is refused.
func TestMachineMaxFuelJustEnough(t *testing.T) {
	reads := []int{13332}
	for _, fuel := range []int{40000, 40001, 50000, math.MaxInt} {
		machineIs(t, machineCase{name: "just enough", list: machineCount(0), reads: reads, how: impl.RnDone, end: 0}, fuel)
		machineIs(t, machineCase{name: "one too few", list: machineCount(1), reads: reads, how: impl.RnFuel}, fuel)
		machineIs(t, machineCase{name: "just enough again", list: machineCount(3), reads: []int{13331}, how: impl.RnDone, end: 5}, fuel)
		machineIs(t, machineCase{name: "one too few again", list: machineCount(4), reads: []int{13331}, how: impl.RnFuel}, fuel)
	}
	machineIs(t, machineCase{name: "one less of fuel", list: machineCount(0), reads: reads, how: impl.RnFuel}, 39999)
	machineIs(t, machineCase{name: "one less of fuel again", list: machineCount(3), reads: []int{13331}, how: impl.RnFuel}, 39999)
}

func TestMachineFuelBelowNought(t *testing.T) {
	for _, c := range machineCases() {
		for _, fuel := range []int{-1, -2, -5000, -40000, -1 << 32, math.MinInt, math.MinInt + 1} {
			machineIs(t, machineCase{name: c.name, list: c.list, reads: c.reads, how: impl.RnBad}, fuel)
		}
		machineIs(t, machineCase{name: c.name, list: c.list, reads: c.reads, how: impl.RnFuel}, 0)
	}
}

// machineEffect looks at all that one step changes: all registers, slots and cells have numbers of their own ahead of it.
func machineEffect(t *testing.T, s impl.Step) {
	t.Helper()
	list := slices.Concat(machineFilled(), codeOf(s), machineAll(), codeOf(maEnd(0)))
	lookMachine(t, machineModel(t, list, []int{77, 78}, 1000))
}

// Each step does what the words say, and nothing else: with all registers, all slots, and places far and near.
func TestMachineEffects(t *testing.T) {
	filled := len(machineFilled())
	for r := range 8 {
		machineEffect(t, maRead(r))
		machineEffect(t, maOut(r))
		machineEffect(t, maEnd(r))
		for _, n := range []int{0, 1, -1, math.MinInt, math.MaxInt, 1 << 40} {
			machineEffect(t, maSet(r, n))
		}
		for slot := range 40 {
			machineEffect(t, maGet(r, slot))
			machineEffect(t, maPut(slot, r))
		}
		for a := range 8 {
			machineEffect(t, maMove(r, a))
			machineEffect(t, maLoad(r, a))
			machineEffect(t, maStore(r, a))
			machineEffect(t, maJump(filled+1+a))
			machineEffect(t, maZero(r, filled+1+a))
			for op := impl.OpAdd; op <= impl.OpRight; op++ {
				machineEffect(t, maWord(op, r, a, (a+3)%8))
				machineEffect(t, maWord(op, r, (a+r)%8, a))
			}
		}
	}
}

// machineDrawn draws a code that is MachineOk: registers have small numbers at first, so that cells are often there.
func machineDrawn(d *drawer, n int) []impl.Step {
	list := codeOf(maSet(d.draw(8), d.draw(8)), maSet(d.draw(8), d.draw(10)-1), maRead(d.draw(8)))
	for len(list) < n {
		list = append(list, stepDrawn(d, n))
	}
	return append(list[:n-1], []impl.Step{maJump(d.draw(n)), maEnd(d.draw(8))}[d.draw(2)])
}

// stepDrawn has ends seldom, and jumps often enough.
func stepDrawn(d *drawer, n int) impl.Step {
	kinds := stepKinds()
	k := kinds[d.draw(len(kinds))]
	if k.op == impl.MaEnd && d.draw(3) > 0 {
		k = kinds[d.draw(8)]
	}
	s := impl.Step{Op: k.op, R: only(k.r, d.draw(8)), A: only(k.a, d.draw(8)), B: only(k.b, d.draw(8))}
	switch k.n {
	case "number":
		s.N = d.draw(12) - 2
	case "slot":
		s.N = []int{0, 1, 38, 39, d.draw(40)}[d.draw(5)]
	case "place":
		s.N = d.draw(n)
	}
	return s
}

func TestMachineDrawnCodes(t *testing.T) {
	d := &drawer{x: 14}
	var seen [3]int
	told, jumps := 0, 0
	for range 6000 {
		list := machineDrawn(d, 4+d.draw(40))
		c := machineModel(t, list, runReads(d), 300)
		lookMachine(t, machineModel(t, list, c.reads, 1000))
		machineIs(t, c, 300)
		seen[c.how]++
		told, jumps = told+len(c.told), jumps+flag(c.how == impl.RnDone && c.need > len(list))
	}
	if seen[impl.RnDone] < 1000 || seen[impl.RnFuel] < 300 || seen[impl.RnCell] < 300 || told < 5000 || jumps < 10 {
		t.Error(seen, told, jumps)
	}
}

func TestMachinePromiseOfDrawnCodes(t *testing.T) {
	d := &drawer{x: 1414}
	ended := 0
	for range 1200 {
		c := machineModel(t, machineDrawn(d, 4+d.draw(30)), runReads(d), 200)
		if c.how != impl.RnFuel {
			ended++
			machinePromise(t, c)
			continue
		}
		for fuel := 0; fuel < 200; fuel += 7 {
			machineBegins(t, c, fuel)
		}
	}
	if ended < 500 {
		t.Errorf("only %d codes came to an end", ended)
	}
}

// Drawn codes in which one number is another one: MachineOk or not, by the words alone.
func TestMachineChangedCodes(t *testing.T) {
	d := &drawer{x: 141414}
	var seen [2]int
	for range 20000 {
		list := machineDrawn(d, 4+d.draw(8))
		s := &list[d.draw(len(list))]
		x := []int{-1, 0, 1, 7, 8, 11, 12, 21, 22, 39, 40, len(list) - 1, len(list)}[d.draw(13)]
		*[]*int{&s.Op, &s.R, &s.A, &s.B, &s.N}[d.draw(5)] = x
		ok := machineOkModel(list)
		seen[flag(ok)]++
		if !ok {
			machineNothing(t, "changed", list)
			continue
		}
		c := machineModel(t, list, []int{3, 1}, 100)
		wantMachine(t, "changed", list, true)
		wantUses(t, "changed", list, c.uses)
		machineIs(t, c, 100)
	}
	if seen[0] < 3000 || seen[1] < 3000 {
		t.Error(seen)
	}
}

// machineSmall are steps for codes of n: with those of one place more, of which none is MachineOk.
func machineSmall(n int) []impl.Step {
	list := codeOf(maSet(0, 8), maSet(1, 1), maMove(0, 1), maGet(0, 0), maPut(0, 1), maLoad(1, 0), maStore(0, 1), maOut(0), maRead(0), maEnd(1), maWord(impl.OpSub, 0, 0, 1))
	for to := range n + 1 {
		list = append(list, maJump(to), maZero(0, to))
	}
	return list
}

// machinesAll looks at all codes of n steps that are made of these.
func machinesAll(steps []impl.Step, n int, list []impl.Step, look func(list []impl.Step)) {
	if len(list) == n {
		look(slices.Clone(list))
		return
	}
	for _, s := range steps {
		machinesAll(steps, n, append(list, s), look)
	}
}

// Promise 14 of all small codes: those that could be left are not MachineOk, and no other is left.
func TestMachineAllSmallCodes(t *testing.T) {
	right := 0
	for n := 1; n <= 3; n++ {
		machinesAll(machineSmall(n), n, nil, func(list []impl.Step) {
			ok := machineOkModel(list)
			wantMachine(t, "small", list, ok)
			if !ok {
				machineIs(t, machineCase{name: "small", list: list, how: impl.RnBad}, 10)
				wantUses(t, "small", list, nil)
				return
			}
			right++
			c := machineModel(t, list, []int{2, 3}, 40)
			machineIs(t, c, 40)
			wantUses(t, "small", list, c.uses)
			if c.how != impl.RnFuel {
				machineIs(t, c, c.need)
				machineIs(t, c, 50000)
				machineBegins(t, c, c.need-1)
			}
		})
	}
	if right < 1000 {
		t.Error(right)
	}
}

// machineAsPlace is a place of a program with eight values that does what the step does; slots and jumps have none.
func machineAsPlace(s impl.Step) impl.Ins {
	switch s.Op {
	case impl.MaSet:
		return insConst(s.R, s.N)
	case impl.MaMove:
		return insCopy(s.R, s.A)
	case impl.MaLoad:
		return insLoad(s.R, s.A)
	case impl.MaStore:
		return insStore(s.A, s.B)
	case impl.MaOut:
		return insOut(s.A)
	case impl.MaRead:
		return insRead(s.R)
	}
	return insOp(s.Op-11, s.R, s.A, s.B)
}

// As Run: a row of steps comes to what the same row of places comes to, with the same fuel.
func TestMachineRowsAsPrograms(t *testing.T) {
	d := &drawer{x: 41}
	var seen [3]int
	for range 800 {
		list, f := []impl.Step{}, oneBlock(8, d.draw(8))
		for range d.draw(25) {
			s := stepDrawn(d, 1)
			for slices.Contains([]int{impl.MaGet, impl.MaPut, impl.MaJump, impl.MaZero, impl.MaEnd}, s.Op) {
				s = stepDrawn(d, 1)
			}
			list = append(list, s)
			addPlace(&f, 0, machineAsPlace(s))
		}
		list = append(list, maEnd(f.Blocks[0].Term.A))
		reads := runReads(d)
		for fuel := -1; fuel < 28; fuel++ {
			told, how, end := impl.Run(f, reads, fuel)
			machineIs(t, machineCase{name: "as Run", list: list, reads: reads, told: told, how: how, end: end}, fuel)
			if how < len(seen) {
				seen[how]++
			}
		}
	}
	if seen[impl.RnDone] < 1000 || seen[impl.RnFuel] < 1000 || seen[impl.RnCell] < 300 {
		t.Error(seen)
	}
}

// Uses tells each slot once, ascending: also those of steps to which nobody comes, and no number of any other step.
func TestMachineUses(t *testing.T) {
	for _, c := range []machineCase{
		{name: "no slot", list: codeOf(maSet(3, 4), maOut(3), maEnd(5))},
		{name: "the first and the last slot", list: codeOf(maPut(39, 2), maGet(1, 0), maEnd(0)), uses: []int{0, 39}},
		{name: "a slot many times", list: codeOf(maPut(7, 2), maGet(1, 7), maPut(7, 3), maGet(7, 7), maEnd(0)), uses: []int{7}},
		{name: "descending", list: codeOf(maGet(0, 30), maPut(20, 0), maGet(0, 10), maPut(5, 0), maEnd(0)), uses: []int{5, 10, 20, 30}},
		{name: "by numbers, not by digits", list: codeOf(maGet(0, 10), maGet(0, 9), maGet(0, 2), maEnd(0)), uses: []int{2, 9, 10}},
		{name: "where nobody comes", list: codeOf(maJump(3), maGet(0, 12), maPut(11, 0), maEnd(0)), uses: []int{11, 12}},
		{name: "behind an end", list: codeOf(maEnd(0), maGet(0, 12), maEnd(0)), uses: []int{12}},
		{name: "numbers of others are no slots", list: codeOf(maSet(1, 17), maGet(0, 1), maZero(2, 3), maZero(3, 4), maJump(5), maEnd(6)), uses: []int{1}},
		{name: "a round without end", list: codeOf(maPut(3, 3), maJump(0)), uses: []int{3}},
	} {
		wantMachine(t, c.name, c.list, true)
		wantUses(t, c.name, c.list, c.uses)
	}
	for a := range 40 {
		for b := range 40 {
			want := []int{min(a, b), max(a, b)}
			wantUses(t, "two slots", codeOf(maGet(1, a), maPut(b, 1), maEnd(1)), slices.Compact(want))
		}
	}
}

func stepsRoomy(list []impl.Step) []impl.Step {
	return append(slices.Clone(list), maEnd(0), impl.Step{Op: -7, R: -8})[:len(list)]
}

// machineUntouched asks with room behind every list, and looks whether anything was written there, or counts.
func machineUntouched(t *testing.T, c machineCase, fuel int) {
	t.Helper()
	ok, uses := impl.MachineOk(c.list), impl.Uses(c.list)
	c.told, c.how, c.end = impl.RunMachine(c.list, c.reads, fuel)
	c.list, c.reads = stepsRoomy(c.list), homesRoomy(c.reads)
	list, reads := slices.Clone(c.list[:cap(c.list)]), slices.Clone(c.reads[:cap(c.reads)])
	wantMachine(t, c.name+" with room", c.list, ok)
	wantUses(t, c.name+" with room", c.list, uses)
	machineIs(t, c, fuel)
	if !slices.Equal(c.list[:cap(c.list)], list) || !slices.Equal(c.reads[:cap(c.reads)], reads) {
		t.Errorf("%s: an argument was written into", c.name)
	}
}

// Promise 21: neither code nor reads, nor the spare room behind them, are written into, and none of it counts.
func TestMachineWritesIntoNothing(t *testing.T) {
	for _, c := range machineCases() {
		machineUntouched(t, c, 1000)
		machineUntouched(t, c, c.need-1)
		machineUntouched(t, c, -1)
		short := c
		short.list = c.list[:len(c.list)-1]
		machineUntouched(t, short, 1000)
		spoilt := c
		spoilt.list = append(slices.Clone(c.list), maJump(-1))
		machineUntouched(t, spoilt, 1000)
	}
	d := &drawer{x: 4}
	for range 300 {
		machineUntouched(t, machineCase{name: "drawn", list: machineDrawn(d, 4+d.draw(30)), reads: runReads(d)}, 500)
	}
}

// Nothing is kept from one call to another: not a register, not a slot, not a cell, not what was told.
func TestMachineSameEachTime(t *testing.T) {
	whole := machineWhole()
	for range 5 {
		lookMachines(t, machineCases())
		for _, c := range whole {
			lookMachine(t, c)
			machineNothing(t, c.name, c.list[:len(c.list)-1])
		}
	}
}

// No answer is what was handed in, nor kept: whoever writes into one changes nothing else.
func TestMachineAnswersAreNew(t *testing.T) {
	for _, c := range machineCases() {
		list, reads := slices.Clone(c.list), slices.Clone(c.reads)
		told, _, _ := impl.RunMachine(list, reads, 1000)
		again, _, _ := impl.RunMachine(list, reads, 1000)
		uses, others := impl.Uses(list), impl.Uses(list)
		fnScribble(told)
		fnScribble(uses)
		if !slices.Equal(list, c.list) || !slices.Equal(reads, c.reads) || !slices.Equal(again, c.told) || !slices.Equal(others, c.uses) {
			t.Errorf("%s: an answer shares memory", c.name)
		}
		clear(list)
		fnScribble(reads)
		if !slices.Equal(again, c.told) || !slices.Equal(others, c.uses) {
			t.Errorf("%s: an answer shares memory with an argument", c.name)
		}
		lookMachine(t, c)
	}
	bad, _, _ := impl.RunMachine(nil, []int{1}, 5)
	fnScribble(bad)
	fnScribble(impl.Uses(nil))
	machineNothing(t, "none", nil)
}
