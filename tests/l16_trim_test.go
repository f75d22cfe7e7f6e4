package tests

import (
	"math"
	"slices"
	"testing"

	"loop.example/g00192/impl"
)

// An idleCase is a step, its number, and whether it does nothing there.
type idleCase struct {
	name string
	s    impl.Step
	at   int
	want bool
}

// A trimCase is a code that is MachineOk, and what is left of it.
type trimCase struct {
	name string
	list []impl.Step
	want []impl.Step
}

func wantIdle(t *testing.T, name string, s impl.Step, at int, want bool) {
	t.Helper()
	if got := impl.Idle(s, at); got != want {
		t.Errorf("%s: Idle of %+v at %d is %t", name, s, at, got)
	}
}

func lookIdle(t *testing.T, cases []idleCase) {
	t.Helper()
	for _, c := range cases {
		wantIdle(t, c.name, c.s, c.at, c.want)
	}
}

func TestIdleMoves(t *testing.T) {
	for _, at := range []int{0, 1, 3, 899, 900, -1, math.MinInt, math.MaxInt} {
		for r := range 8 {
			for a := range 8 {
				wantIdle(t, "a move", maMove(r, a), at, r == a)
			}
		}
	}
}

// What is no register is not moved to itself.
func TestIdleMovesOfNoRegister(t *testing.T) {
	for _, x := range []int{-1, -2, -8, 8, 9, 10, 39, 40, 256, 1 << 32, 1<<32 + 1, math.MaxInt, math.MinInt} {
		wantIdle(t, "no register to itself", maMove(x, x), 0, false)
		wantIdle(t, "no register to one", maMove(0, x), 0, false)
		wantIdle(t, "a register to none", maMove(7, x), 0, false)
		wantIdle(t, "none to a register", maMove(x, 0), 0, false)
		wantIdle(t, "none to a register", maMove(x, 7), 0, false)
	}
}

func TestIdleJumps(t *testing.T) {
	for _, at := range []int{0, 1, 2, 5, 7, 8, 39, 40, 450, impl.MaxCode - 2, impl.MaxCode - 1, impl.MaxCode, 1 << 32, -1, -2, -900} {
		for _, more := range []int{-900, -3, -2, -1, 0, 1, 2, 3, 900} {
			wantIdle(t, "a jump", maJump(at+more), at, more == 1)
			for a := range 8 {
				wantIdle(t, "a MaZero", maZero(a, at+more), at, more == 1)
			}
		}
	}
}

// At the edges: there is nothing behind the greatest number, so that nothing goes there.
func TestIdleEdges(t *testing.T) {
	for _, c := range []idleCase{
		{"the first step, to the second", maJump(1), 0, true},
		{"the first step, to itself", maJump(0), 0, false},
		{"ahead of the first step, to the first", maJump(0), -1, true},
		{"ahead of the first step, to the second", maJump(1), -1, false},
		{"ahead of the first step, to itself", maJump(-1), -1, false},
		{"the last step of the longest code, behind it", maJump(900), 899, true},
		{"the last step of the longest code, to itself", maJump(899), 899, false},
		{"the last step of the longest code, to the one ahead", maJump(898), 899, false},
		{"the last one but one, to the last", maJump(899), 898, true},
		{"from the greatest number to the least", maJump(math.MinInt), math.MaxInt, false},
		{"from the greatest number to itself", maJump(math.MaxInt), math.MaxInt, false},
		{"from the greatest number to one below", maJump(math.MaxInt - 1), math.MaxInt, false},
		{"from the greatest number to 0", maJump(0), math.MaxInt, false},
		{"to the greatest number", maJump(math.MaxInt), math.MaxInt - 1, true},
		{"from the least number to the next", maJump(math.MinInt + 1), math.MinInt, true},
		{"from the least number to itself", maJump(math.MinInt), math.MinInt, false},
		{"from the least number to the greatest", maJump(math.MaxInt), math.MinInt, false},
		{"from the least number to 1", maJump(1), math.MinInt, false},
		{"from behind the least number to it", maJump(math.MinInt), math.MinInt + 1, false},
		{"from 0 to the least number", maJump(math.MinInt), 0, false},
		{"from 0 to the greatest number", maJump(math.MaxInt), 0, false},
		{"by half of what fits", maJump(1<<32 + 1), 0, false},
		{"by half of what fits, at", maJump(1), 1 << 32, false},
	} {
		wantIdle(t, c.name, c.s, c.at, c.want)
		c.s.Op = impl.MaZero
		wantIdle(t, c.name+" by MaZero", c.s, c.at, c.want)
	}
}

// No other op is ever nothing, however alike its registers are, and whatever its number is.
func TestIdleOtherOps(t *testing.T) {
	for _, k := range stepKinds() {
		if slices.Contains([]int{impl.MaMove, impl.MaJump, impl.MaZero}, k.op) {
			continue
		}
		for _, at := range []int{-1, 0, 1, 4, 38, 39, 899} {
			wantIdle(t, "no parts", impl.Step{Op: k.op}, at, false)
			wantIdle(t, "the next number", impl.Step{Op: k.op, N: at + 1}, at, false)
			for r := range 8 {
				wantIdle(t, "all alike", impl.Step{Op: k.op, R: r, A: r, B: r, N: at + 1}, at, false)
				wantIdle(t, "what it names alike", impl.Step{Op: k.op, R: only(k.r, r), A: only(k.a, r), B: only(k.b, r), N: only(k.n != "", at+1)}, at, false)
			}
		}
	}
	lookIdle(t, []idleCase{
		{"a number that is set", maSet(0, 1), 0, false},
		{"a slot that is got", maGet(4, 5), 4, false},
		{"a slot that is put", maPut(5, 4), 4, false},
		{"a load into the register that tells the cell", maLoad(3, 3), 0, false},
		{"a store of what tells the cell", maStore(3, 3), 0, false},
		{"a sum of a register and itself", maWord(impl.OpAdd, 3, 3, 3), 0, false},
		{"the bits of a register and itself", maWord(impl.OpAnd, 3, 3, 3), 0, false},
		{"an end", maEnd(0), 0, false},
	})
}

func TestIdleOpsThatAreNone(t *testing.T) {
	ops := []int{math.MinInt, math.MinInt + 2, math.MinInt + 9, -1 << 32, 1 << 32, 1<<32 + 2, 1<<32 + 9, 1<<32 + 10, math.MaxInt}
	for op := -30; op <= 60; op++ {
		if op < 1 || op > 21 {
			ops = append(ops, op)
		}
	}
	for _, op := range ops {
		for _, at := range []int{-1, 0, 1, 899, math.MinInt, math.MaxInt - 1} {
			wantIdle(t, "an op that is none", impl.Step{Op: op}, at, false)
			wantIdle(t, "an op that is none", impl.Step{Op: op, N: at + 1}, at, false)
			wantIdle(t, "an op that is none", impl.Step{Op: op, R: 3, A: 3, N: at + 1}, at, false)
		}
	}
}

// What an op does not name counts for nothing, and of a MaZero not what it asks, but where it goes.
func TestIdleWhatIsNotNamed(t *testing.T) {
	for _, x := range []int{1, 2, 7, 8, -1, 39, 40, 1 << 32, math.MaxInt, math.MinInt} {
		for _, at := range []int{-1, 0, 5, 899} {
			wantIdle(t, "a move to itself", impl.Step{Op: impl.MaMove, R: 3, A: 3, B: x, N: x}, at, true)
			wantIdle(t, "a move to another one", impl.Step{Op: impl.MaMove, R: 3, A: 4, B: x, N: at + 1}, at, false)
			wantIdle(t, "a jump to the next", impl.Step{Op: impl.MaJump, R: x, A: x, B: x, N: at + 1}, at, true)
			wantIdle(t, "a jump to the next", impl.Step{Op: impl.MaJump, A: x, N: at + 1}, at, true)
			wantIdle(t, "a jump to itself", impl.Step{Op: impl.MaJump, R: x, A: x, B: x, N: at}, at, false)
			wantIdle(t, "a MaZero to the next", impl.Step{Op: impl.MaZero, R: x, A: 2, B: x, N: at + 1}, at, true)
			wantIdle(t, "a MaZero to the next, of no register", impl.Step{Op: impl.MaZero, A: x, N: at + 1}, at, true)
			wantIdle(t, "a MaZero to the one behind the next", impl.Step{Op: impl.MaZero, R: x, A: x, B: x, N: at + 2}, at, false)
		}
	}
}

// trimStands has codes in which what is nothing stands at all places.
func trimStands() []trimCase {
	set, out, end := maSet(0, 1), maOut(0), maEnd(0)
	return []trimCase{
		{"nothing is idle", codeOf(set, out, end), codeOf(set, out, end)},
		{"nothing is idle, with jumps", machineNest(), machineNest()},
		{"a move at the front", codeOf(maMove(2, 2), set, out, end), codeOf(set, out, end)},
		{"a jump at the front", codeOf(maJump(1), set, out, end), codeOf(set, out, end)},
		{"a MaZero at the front", codeOf(maZero(0, 1), set, out, end), codeOf(set, out, end)},
		{"a move in the middle", codeOf(set, maMove(0, 0), out, end), codeOf(set, out, end)},
		{"a jump in the middle", codeOf(set, maJump(2), out, end), codeOf(set, out, end)},
		{"a MaZero in the middle", codeOf(set, maZero(0, 2), out, end), codeOf(set, out, end)},
		{"a move just ahead of the last", codeOf(set, out, maMove(7, 7), end), codeOf(set, out, end)},
		{"a jump just ahead of the last", codeOf(set, out, maJump(3), end), codeOf(set, out, end)},
		{"a MaZero just ahead of the last", codeOf(set, out, maZero(7, 3), end), codeOf(set, out, end)},
		{"several one behind the other", codeOf(set, maMove(1, 1), maJump(3), maZero(0, 4), maMove(7, 7), out, end), codeOf(set, out, end)},
		{"several apart", codeOf(maMove(1, 1), set, maJump(3), out, maZero(0, 5), end), codeOf(set, out, end)},
		{"all but the last, an end", codeOf(maMove(1, 1), maJump(2), maZero(3, 3), end), codeOf(end)},
		{"all but the last, a jump", codeOf(maMove(1, 1), maJump(2), maZero(3, 3), maJump(1)), codeOf(maJump(0))},
		{"all but the last, a jump to itself", codeOf(maMove(1, 1), maJump(2), maJump(2)), codeOf(maJump(0))},
		{"one step, an end", codeOf(end), codeOf(end)},
		{"one step, a jump to itself", codeOf(maJump(0)), codeOf(maJump(0))},
		{"the last step, a jump to itself", codeOf(set, out, maJump(2)), codeOf(set, out, maJump(2))},
		{"where nobody comes", codeOf(end, maMove(1, 1), maJump(3), out, maJump(0)), codeOf(end, out, maJump(0))},
		{"jumps that are nearly nothing", codeOf(maJump(2), maZero(0, 1), maJump(1), maZero(1, 5), maZero(2, 3), end), codeOf(maJump(2), maZero(0, 1), maJump(1), maZero(1, 5), maZero(2, 3), end)},
		{"moves that are nearly nothing", codeOf(maMove(0, 1), maMove(1, 0), maMove(7, 0), maMove(0, 7), end), codeOf(maMove(0, 1), maMove(1, 0), maMove(7, 0), maMove(0, 7), end)},
		{"what is alike and something", codeOf(maLoad(3, 3), maStore(3, 3), maWord(impl.OpAnd, 3, 3, 3), maGet(0, 4), maPut(5, 0), maSet(0, 6), end),
			codeOf(maLoad(3, 3), maStore(3, 3), maWord(impl.OpAnd, 3, 3, 3), maGet(0, 4), maPut(5, 0), maSet(0, 6), end)},
	}
}

// trimGoes has jumps to what stays, and to what is no more, from ahead of it and from behind.
func trimGoes() []trimCase {
	idle, out, end := maMove(1, 1), maOut(0), maEnd(0)
	return []trimCase{
		{"forwards to what stays", codeOf(maJump(3), idle, out, end), codeOf(maJump(2), out, end)},
		{"forwards to an idle step", codeOf(maJump(2), out, idle, end), codeOf(maJump(2), out, end)},
		{"forwards to the first of several", codeOf(maZero(0, 2), out, idle, maJump(4), maZero(5, 5), maSet(0, 3), end), codeOf(maZero(0, 2), out, maSet(0, 3), end)},
		{"forwards to the midst of several", codeOf(maZero(0, 3), out, idle, maJump(4), maZero(5, 5), maSet(0, 3), end), codeOf(maZero(0, 2), out, maSet(0, 3), end)},
		{"forwards to the last of several", codeOf(maZero(0, 4), out, idle, maJump(4), maZero(5, 5), maSet(0, 3), end), codeOf(maZero(0, 2), out, maSet(0, 3), end)},
		{"forwards behind several", codeOf(maZero(0, 5), out, idle, maJump(4), maZero(5, 5), maSet(0, 3), end), codeOf(maZero(0, 2), out, maSet(0, 3), end)},
		{"forwards over several to the last step", codeOf(maZero(0, 6), out, idle, maJump(4), maZero(5, 5), maSet(0, 3), end), codeOf(maZero(0, 3), out, maSet(0, 3), end)},
		{"to an idle step just ahead of the last", codeOf(maZero(0, 3), out, out, idle, end), codeOf(maZero(0, 3), out, out, end)},
		{"backwards to what stays", codeOf(idle, maRead(0), maZero(0, 4), maJump(1), end), codeOf(maRead(0), maZero(0, 3), maJump(0), end)},
		{"backwards to an idle step at the place 0", codeOf(idle, maRead(0), maZero(0, 4), maJump(0), end), codeOf(maRead(0), maZero(0, 3), maJump(0), end)},
		{"backwards to the place 0 that stays", codeOf(maRead(0), idle, maZero(0, 4), maJump(0), end), codeOf(maRead(0), maZero(0, 3), maJump(0), end)},
		{"backwards to the first of several", codeOf(out, idle, maJump(3), maRead(0), maZero(0, 6), maJump(1), end), codeOf(out, maRead(0), maZero(0, 4), maJump(1), end)},
		{"backwards to the last of several", codeOf(out, idle, maJump(3), maRead(0), maZero(0, 6), maJump(2), end), codeOf(out, maRead(0), maZero(0, 4), maJump(1), end)},
		{"backwards over an idle step", codeOf(maRead(0), out, idle, maZero(0, 5), maJump(1), end), codeOf(maRead(0), out, maZero(0, 4), maJump(1), end)},
		{"to itself behind an idle step", codeOf(idle, maZero(0, 1), end), codeOf(maZero(0, 0), end)},
		{"to the idle step just ahead, the last step", codeOf(out, idle, maJump(1)), codeOf(out, maJump(1))},
		{"backwards to an idle step, which stands just ahead of the jump", codeOf(out, maJump(2), maZero(0, 1), end), codeOf(out, maZero(0, 1), end)},
		{"a jump to a jump that is nothing", codeOf(maZero(1, 2), out, maJump(3), end), codeOf(maZero(1, 2), out, end)},
		{"a last step that jumps to the place 0", codeOf(idle, out, idle, maJump(0)), codeOf(out, maJump(0))},
		{"a last step that jumps to an idle one", codeOf(out, maRead(0), idle, out, maJump(2)), codeOf(out, maRead(0), out, maJump(2))},
	}
}

// trimNewly has jumps that are something, till what they go over is no more: they stay.
func trimNewly() []trimCase {
	idle, out, end := maMove(1, 1), maOut(0), maEnd(0)
	return []trimCase{
		{"a jump over one that is no more", codeOf(maJump(2), idle, end), codeOf(maJump(1), end)},
		{"a MaZero over one that is no more", codeOf(maZero(0, 2), idle, end), codeOf(maZero(0, 1), end)},
		{"a jump to one that is no more", codeOf(maJump(2), idle, idle, out, end), codeOf(maJump(1), out, end)},
		{"a jump over several that are no more", codeOf(out, maJump(5), idle, maJump(4), maZero(3, 5), out, end), codeOf(out, maJump(2), out, end)},
		{"a jump over a jump that stays", codeOf(maJump(3), maJump(3), idle, end), codeOf(maJump(2), maJump(2), end)},
		{"a MaZero to one that is no more, just ahead of the last step", codeOf(out, maZero(2, 3), idle, idle, maJump(0)), codeOf(out, maZero(2, 2), maJump(0))},
	}
}

// trimNumbers has numbers that are no places: they stay as they are.
func trimNumbers() []trimCase {
	idle := maMove(1, 1)
	return []trimCase{
		{"a number that is set", codeOf(idle, maSet(0, 1), maSet(0, 2), maSet(0, 3), maEnd(0)), codeOf(maSet(0, 1), maSet(0, 2), maSet(0, 3), maEnd(0))},
		{"numbers that would be no place", codeOf(idle, maSet(0, -1), maSet(0, 900), maSet(0, math.MinInt), maSet(0, math.MaxInt), maEnd(0)), codeOf(maSet(0, -1), maSet(0, 900), maSet(0, math.MinInt), maSet(0, math.MaxInt), maEnd(0))},
		{"slots that are got", codeOf(idle, maGet(0, 1), maGet(0, 3), maGet(0, 39), maEnd(0)), codeOf(maGet(0, 1), maGet(0, 3), maGet(0, 39), maEnd(0))},
		{"slots that are put", codeOf(idle, maPut(1, 0), maPut(3, 0), maPut(39, 0), maEnd(0)), codeOf(maPut(1, 0), maPut(3, 0), maPut(39, 0), maEnd(0))},
		{"registers of jumps", codeOf(idle, maZero(5, 3), idle, maZero(7, 0), maZero(3, 4), maEnd(6)), codeOf(maZero(5, 1), maZero(7, 0), maZero(3, 2), maEnd(6))},
	}
}

func trimCases() []trimCase {
	return slices.Concat(trimStands(), trimGoes(), trimNewly(), trimNumbers())
}

func wantTrim(t *testing.T, name string, list, want []impl.Step) {
	t.Helper()
	if got := impl.Trim(list); !slices.Equal(got, want) {
		t.Errorf("%s: Trim is\n%+v, not\n%+v: %+v", name, got, want, list)
	}
	if got := impl.Trimmed(list); got != len(list)-len(want) {
		t.Errorf("%s: Trimmed is %d, not %d: %+v", name, got, len(list)-len(want), list)
	}
}

// trimAsItWas is what is answered of a list that is not MachineOk.
func trimAsItWas(t *testing.T, name string, list []impl.Step) {
	t.Helper()
	wantMachine(t, name, list, false)
	wantTrim(t, name, list, slices.Clone(list))
}

func lookTrim(t *testing.T, c trimCase) {
	t.Helper()
	wantMachine(t, c.name, c.list, true)
	wantTrim(t, c.name, c.list, c.want)
	wantMachine(t, c.name+" trimmed", c.want, true)
}

func lookTrims(t *testing.T, cases []trimCase) {
	t.Helper()
	for _, c := range cases {
		lookTrim(t, c)
	}
}

func TestTrimStands(t *testing.T) { lookTrims(t, trimStands()) }

func TestTrimGoes(t *testing.T) { lookTrims(t, trimGoes()) }

func TestTrimNewly(t *testing.T) {
	lookTrims(t, trimNewly())
	// what was something once is nothing when it is asked for again
	lookTrim(t, trimCase{"again", impl.Trim(codeOf(maJump(2), maMove(1, 1), maEnd(0))), codeOf(maEnd(0))})
	over := codeOf(maJump(4), maJump(3), maMove(1, 1), maOut(0), maMove(2, 2), maEnd(0))
	for _, want := range [][]impl.Step{
		codeOf(maJump(3), maJump(2), maOut(0), maEnd(0)),
		codeOf(maJump(2), maOut(0), maEnd(0)),
		codeOf(maJump(2), maOut(0), maEnd(0)),
	} {
		lookTrim(t, trimCase{"again and again", over, want})
		over = impl.Trim(over)
	}
}

func TestTrimNumbers(t *testing.T) { lookTrims(t, trimNumbers()) }

// idleModel goes by the words.
func idleModel(s impl.Step, at int) bool {
	return s.Op == impl.MaMove && s.R == s.A || slices.Contains([]int{impl.MaJump, impl.MaZero}, s.Op) && s.N-at == 1
}

// trimModel goes by the words, for a code that is MachineOk: who stays is told first, and each jump looks for the one that it comes to.
func trimModel(list []impl.Step) []impl.Step {
	left := []int{}
	for at, s := range list {
		if at == len(list)-1 || !idleModel(s, at) {
			left = append(left, at)
		}
	}
	code := []impl.Step{}
	for _, at := range left {
		s := list[at]
		if s.Op == impl.MaJump || s.Op == impl.MaZero {
			s.N = slices.IndexFunc(left, func(to int) bool { return to >= list[at].N })
		}
		code = append(code, s)
	}
	return code
}

func TestTrimModelOfCases(t *testing.T) {
	for _, c := range trimCases() {
		if got := trimModel(c.list); !slices.Equal(got, c.want) {
			t.Errorf("%s: the model tells %+v, not %+v", c.name, got, c.want)
		}
	}
}

// trimWay tells for each fuel from 0 on, up to so much or to what the code needs, how many of the steps that it takes are something.
func trimWay(list []impl.Step, reads []int, fuel int) []int {
	m := &machineState{regs: map[int]int{}, slots: map[int]int{}, cells: map[int]int{}, reads: slices.Clone(reads)}
	way := []int{0}
	for len(way) <= fuel {
		at := m.at
		way = append(way, way[len(way)-1]+flag(!idleModel(list[at], at)))
		if _, _, over := machineStep(m, list[at]); over {
			break
		}
	}
	return way
}

// trimTells holds trimmed code against the code, step by step: it tells the same, and comes to the same, with just so much less of
// fuel as steps are nothing on the way.
func trimTells(t *testing.T, name string, list, code []impl.Step, reads []int, fuel int) {
	t.Helper()
	way := trimWay(list, reads, fuel)
	for taken, need := range way {
		c := machineCase{name: name + " trimmed", list: code, reads: reads}
		c.told, c.how, c.end = impl.RunMachine(list, reads, taken)
		machineIs(t, c, need)
		if c.how == impl.RnFuel {
			machineFurther(t, c, taken)
			continue
		}
		for _, more := range []int{need + 1, taken, taken + 1, 40000, math.MaxInt} {
			machineIs(t, c, more)
		}
		machineBegins(t, machineCase{name: c.name, list: code, reads: reads, told: c.told, need: need}, need-1)
	}
}

// machineFurther looks at a run for which the code that c is of would have no fuel left: it has told as much at least.
func machineFurther(t *testing.T, c machineCase, fuel int) {
	t.Helper()
	if told, _, _ := impl.RunMachine(c.list, c.reads, fuel); !isBeginning(c.told, told) {
		t.Errorf("%s, fuel %d: RunMachine tells %v, and not %v first: %+v", c.name, fuel, told, c.told, c.list)
	}
}

// trimPromise is promise 16 of one code; it tells how many steps are fewer.
func trimPromise(t *testing.T, name string, list []impl.Step, reads []int, fuel int) int {
	t.Helper()
	lookTrim(t, trimCase{name, list, trimModel(list)})
	code := impl.Trim(list)
	trimTells(t, name, list, code, reads, fuel)
	if !slices.Equal(impl.Uses(list), impl.Uses(code)) {
		t.Errorf("%s: the slots are %v, not %v: %+v", name, impl.Uses(code), impl.Uses(list), list)
	}
	return len(list) - len(code)
}

// Promise 16: trimmed the code tells the same.
func TestTrimPromise(t *testing.T) {
	reads := [][]int{nil, {0}, {1}, {3, 1, 0, 2}, {5, -1, 7}, {math.MinInt, math.MaxInt}}
	for _, c := range trimCases() {
		for _, r := range reads {
			trimPromise(t, c.name, c.list, r, 60)
		}
	}
	for _, c := range machineCases() {
		trimPromise(t, c.name, c.list, c.reads, 1000)
	}
	for _, c := range emitCases() {
		for _, r := range append(reads, c.reads) {
			trimPromise(t, c.name, emitCodeOf(t, c.f), r, 100)
		}
	}
}

// What ordinary codes tell when they are trimmed, by hand.
func TestTrimTold(t *testing.T) {
	loop := codeOf(maMove(3, 3), maRead(0), maSet(1, 1), maJump(4), maZero(0, 6), maJump(7), maEnd(1),
		maWord(impl.OpSub, 0, 0, 1), maMove(0, 0), maOut(0), maZero(0, 11), maJump(4))
	trimmed := codeOf(maRead(0), maSet(1, 1), maZero(0, 4), maJump(5), maEnd(1), maWord(impl.OpSub, 0, 0, 1), maOut(0), maJump(2))
	lookTrim(t, trimCase{"a loop", loop, trimmed})
	bad := codeOf(maJump(1), maRead(0), maOut(0), maMove(0, 0), maLoad(1, 0), maZero(1, 6), maOut(1), maMove(7, 7), maEnd(0))
	lookTrim(t, trimCase{"a load", bad, codeOf(maRead(0), maOut(0), maLoad(1, 0), maOut(1), maEnd(0))})
	for _, c := range []machineCase{
		{name: "a loop", list: loop, reads: []int{3}, told: []int{2, 1, 0}, how: impl.RnDone, end: 1},
		{name: "a loop never gone through", list: loop, how: impl.RnDone, end: 1},
		{name: "a cell", list: bad, reads: []int{7}, told: []int{7, 0}, how: impl.RnDone, end: 7},
		{name: "a cell that is none", list: bad, reads: []int{8}, told: []int{8}, how: impl.RnCell},
		{name: "a cell below all", list: bad, reads: []int{-1}, told: []int{-1}, how: impl.RnCell},
	} {
		machineIs(t, c, 100)
		c.list = impl.Trim(c.list)
		machineIs(t, c, 100)
	}
}

// A code without end has none when it is trimmed; one that just has no fuel left may come to its end, as it takes fewer steps.
func TestTrimFuel(t *testing.T) {
	for _, list := range [][]impl.Step{
		codeOf(maMove(1, 1), maJump(0)),
		codeOf(maMove(1, 1), maJump(2), maJump(0)),
		codeOf(maJump(1), maZero(0, 0), maEnd(0)),
		codeOf(maMove(1, 1), maJump(1)),
	} {
		for _, fuel := range []int{0, 1, 2, 100, 40000, math.MaxInt} {
			machineIs(t, machineCase{name: "no end", list: list, how: impl.RnFuel}, fuel)
			machineIs(t, machineCase{name: "no end, trimmed", list: impl.Trim(list), how: impl.RnFuel}, fuel)
		}
	}
	count := codeOf(maRead(0), maSet(1, 1), maZero(0, 6), maWord(impl.OpSub, 0, 0, 1), maMove(2, 2), maJump(2), maEnd(1))
	code := impl.Trim(count)
	for _, c := range []struct{ n, how, then int }{{9999, impl.RnDone, impl.RnDone}, {10000, impl.RnFuel, impl.RnDone}, {13332, impl.RnFuel, impl.RnDone}, {13333, impl.RnFuel, impl.RnFuel}} {
		machineIs(t, machineCase{name: "long", list: count, reads: []int{c.n}, how: c.how, end: flag(c.how == impl.RnDone)}, math.MaxInt)
		machineIs(t, machineCase{name: "long, trimmed", list: code, reads: []int{c.n}, how: c.then, end: flag(c.then == impl.RnDone)}, math.MaxInt)
	}
}

// trimDrawn draws a code that is MachineOk, of whose steps about one of so many is nothing.
func trimDrawn(d *drawer, n, of int) []impl.Step {
	list := machineDrawn(d, n)
	for at := range n - 1 {
		if d.draw(of) == 0 {
			r := d.draw(8)
			list[at] = []impl.Step{maMove(r, r), maJump(at + 1), maZero(r, at+1)}[d.draw(3)]
		}
	}
	return list
}

func TestTrimDrawnCodes(t *testing.T) {
	d := &drawer{x: 16}
	var seen [3]int
	fewer, newly := 0, 0
	for range 4000 {
		list, reads := trimDrawn(d, 4+d.draw(30), 1+d.draw(6)), runReads(d)
		fewer += flag(trimPromise(t, "drawn", list, reads, 60) > 2)
		_, how, _ := impl.RunMachine(list, reads, 60)
		seen[how]++
		code := impl.Trim(list)
		again := trimPromise(t, "drawn, again", code, reads, 60)
		newly += flag(again > 0)
	}
	if slices.Min(seen[:]) < 100 || fewer < 1000 || newly < 40 {
		t.Error(seen, fewer, newly)
	}
}

// trimHomes looks at the codes of a plain program with homes of all sorts that are right: they tell what the program tells, when they are trimmed.
func trimHomes(t *testing.T, d *drawer, name string, p impl.Fn, reads []int) int {
	t.Helper()
	fewer := 0
	for _, homes := range homeRights(d, p) {
		r, _ := impl.Renamed(p, homes)
		list, ok := impl.Emit(r)
		if !ok {
			continue
		}
		fewer += trimPromise(t, name, list, reads, 50)
		c := machineCase{name: name, list: impl.Trim(list), reads: reads}
		if c.told, c.how, c.end = impl.Run(p, reads, 250); c.how != impl.RnFuel {
			machineIs(t, c, 1000)
		}
	}
	return fewer
}

func TestTrimLowered(t *testing.T) {
	d := &drawer{x: 161}
	for _, c := range plainCases() {
		trimHomes(t, d, c.name, c.plain, c.reads)
		trimHomes(t, d, c.name, c.plain, []int{1, 1, 1})
	}
	for _, c := range edgeCases() {
		g, _ := impl.Split(c.f)
		p, _ := impl.Lower(g)
		trimHomes(t, d, c.name, p, c.reads)
	}
}

func TestTrimDrawnLowered(t *testing.T) {
	d := &drawer{x: 1616}
	seen, fewer := 0, 0
	var ends [3]int
	wellDrawn(16, 20, func(f impl.Fn) {
		g, _ := impl.Split(f)
		p, ok := impl.Lower(g)
		if !ok {
			return
		}
		seen++
		reads := runReads(d)
		fewer += flag(trimHomes(t, d, "drawn", p, reads) > 0)
		_, how, _ := impl.Run(p, reads, 250)
		ends[how]++
	})
	if seen < 100 || fewer < 80 || slices.Min(ends[:]) < 5 {
		t.Error(seen, fewer, ends)
	}
}

// Programs that are plain and nothing more: with copies of homes to themselves, and choices between one and the same block.
func TestTrimDrawnPlain(t *testing.T) {
	d := &drawer{x: 116}
	var ends [3]int
	seen, fewer := 0, 0
	for i := range 800 {
		f := liveAnyOf(d, 1+d.draw(impl.MaxBlocks), 1+d.draw([]int{4, 9, impl.MaxHomes}[i%3]), 6)
		for b := range f.Blocks {
			v := d.draw(f.Values)
			addPlace(&f, b, insCopy(v, v))
		}
		list, ok := impl.Emit(f)
		if !ok {
			continue
		}
		seen++
		reads := runReads(d)
		fewer += trimPromise(t, "drawn", list, reads, 60)
		c := machineCase{name: "drawn", list: impl.Trim(list), reads: reads}
		if c.told, c.how, c.end = impl.Run(f, reads, 250); c.how != impl.RnFuel {
			machineIs(t, c, math.MaxInt)
		}
		ends[c.how]++
	}
	if seen < 700 || fewer < 1000 || slices.Min(ends[:]) < 20 {
		t.Error(seen, fewer, ends)
	}
}

// trimSmall are steps for codes of n, with jumps to all places and to one more.
func trimSmall(n int) []impl.Step {
	list := codeOf(maMove(0, 0), maMove(0, 1), maOut(0), maRead(0), maEnd(0))
	for to := range n + 1 {
		list = append(list, maJump(to), maZero(0, to))
	}
	return list
}

// Promise 16 of all small codes.
func TestTrimAllSmallCodes(t *testing.T) {
	right, fewer := 0, 0
	for n := 1; n <= 4; n++ {
		machinesAll(trimSmall(n), n, nil, func(list []impl.Step) {
			if !machineOkModel(list) {
				wantTrim(t, "small", list, slices.Clone(list))
				return
			}
			right++
			want := trimModel(list)
			lookTrim(t, trimCase{"small", list, want})
			if len(want) == n {
				return
			}
			fewer++
			if n < 4 {
				trimPromise(t, "small", list, []int{2, 0}, 12)
			}
		})
	}
	if right < 5000 || fewer < 3000 {
		t.Error(right, fewer)
	}
}

// A last step is never nothing where a list is MachineOk, as it goes to no place behind it: but where all that is ahead of it is
// nothing, it stays.
func TestTrimLastStepStays(t *testing.T) {
	for n := 1; n <= 12; n++ {
		ahead := slices.Repeat(codeOf(maMove(2, 2)), n-1)
		for to := range n {
			lookTrim(t, trimCase{"a jump", append(slices.Clone(ahead), maJump(to)), codeOf(maJump(0))})
		}
		lookTrim(t, trimCase{"an end", append(slices.Clone(ahead), maEnd(5)), codeOf(maEnd(5))})
		trimAsItWas(t, "a jump behind the last step", append(slices.Clone(ahead), maJump(n)))
		trimAsItWas(t, "a MaZero behind the last step", append(slices.Clone(ahead), maZero(0, n)))
		trimAsItWas(t, "a move, the last step", append(slices.Clone(ahead), maMove(1, 1)))
	}
}

// Limits: a code of MaxCode steps is trimmed, one of one more is as it was.
func TestTrimLimits(t *testing.T) {
	for _, n := range []int{2, 899, 900} {
		moves := append(slices.Repeat(codeOf(maMove(3, 3)), n-1), maEnd(3))
		lookTrim(t, trimCase{"moves", moves, codeOf(maEnd(3))})
		outs := append(slices.Repeat(codeOf(maOut(3)), n-1), maEnd(3))
		lookTrim(t, trimCase{"nothing is idle", outs, outs})
		row, turns := []impl.Step{}, []impl.Step{}
		for at := range n - 1 {
			row = append(row, maJump(at+1))
			turns = append(turns, []impl.Step{maZero(1, (n-2)/2*2), maMove(2, 2)}[at%2])
		}
		lookTrim(t, trimCase{"jumps in a row", append(row, maJump(n-1)), codeOf(maJump(0))})
		lookTrim(t, trimCase{"by turns", append(turns, maJump(0)), append(slices.Repeat(codeOf(maZero(1, (n-2)/2)), n/2), maJump(0))})
	}
	lookTrim(t, trimCase{"a long code", machineLong(900), machineLong(900)})
	for _, n := range []int{901, 902, 1000, 1800, 5000} {
		trimAsItWas(t, "too many moves", append(slices.Repeat(codeOf(maMove(3, 3)), n-1), maEnd(3)))
		trimAsItWas(t, "too many jumps", append(slices.Repeat(codeOf(maJump(1)), n-1), maEnd(3)))
		trimAsItWas(t, "too many steps", machineLong(n))
	}
	trimPromise(t, "as long as it may be", trimDrawn(&drawer{x: 61}, 900, 2), []int{4, 1}, 100)
	for _, n := range []int{1, 97, 899, 900} {
		trimPromise(t, "a long program", emitCodeOf(t, emitLong(n)), nil, 1000)
	}
}

func TestTrimNoStep(t *testing.T) {
	trimAsItWas(t, "nil", nil)
	trimAsItWas(t, "no step", []impl.Step{})
	trimAsItWas(t, "no step, with room behind", codeOf(maMove(1, 1), maEnd(0))[:0])
	for _, k := range stepKinds() {
		one := codeOf(impl.Step{Op: k.op})
		wantTrim(t, "one step", one, slices.Clone(one))
	}
}

// What is not MachineOk is as it was, however much of it is nothing, and wherever the mistake stands.
func TestTrimNotMachineOk(t *testing.T) {
	for _, c := range trimCases() {
		n := len(c.list)
		for _, s := range []impl.Step{{}, {Op: 22}, {Op: -1}, {Op: math.MinInt}, {Op: math.MaxInt}, maJump(n), maJump(-1), maJump(math.MinInt), maJump(math.MaxInt), maZero(0, n), maZero(8, 0), maZero(0, math.MaxInt),
			maEnd(8), maGet(0, 40), maPut(-1, 0), maMove(8, 8), maMove(-1, -1), {Op: impl.MaMove, R: 1, A: 1, B: 1}, {Op: impl.MaMove, R: 1, A: 1, N: 1}, {Op: impl.MaJump, A: 1}, {Op: impl.MaZero, R: 1}} {
			for at := range c.list {
				list := slices.Clone(c.list)
				list[at] = s
				trimAsItWas(t, c.name+" spoilt", list)
			}
		}
		if short := c.list[:n-1]; !machineOkModel(short) {
			trimAsItWas(t, c.name+" without its last step", short)
		}
		trimAsItWas(t, c.name+" with a move behind", append(slices.Clone(c.list), maMove(1, 1)))
		trimAsItWas(t, c.name+" with a MaZero behind", append(slices.Clone(c.list), maZero(1, n)))
		trimAsItWas(t, c.name+" with a tell behind", append(slices.Clone(c.list), maOut(1)))
	}
}

// Drawn codes in which one number is another one: trimmed or as they were, by the words alone.
func TestTrimChangedCodes(t *testing.T) {
	d := &drawer{x: 611}
	var seen [2]int
	for range 10000 {
		list := trimDrawn(d, 4+d.draw(8), 3)
		s := &list[d.draw(len(list))]
		x := []int{-1, 0, 1, 2, 7, 8, 9, 10, 11, 22, 39, 40, len(list) - 1, len(list)}[d.draw(14)]
		*[]*int{&s.Op, &s.R, &s.A, &s.B, &s.N}[d.draw(5)] = x
		ok := machineOkModel(list)
		seen[flag(ok)]++
		if !ok {
			trimAsItWas(t, "changed", list)
			continue
		}
		lookTrim(t, trimCase{"changed", list, trimModel(list)})
	}
	if seen[0] < 2000 || seen[1] < 2000 {
		t.Error(seen)
	}
}

// trimUntouched asks with room behind the list, and looks whether anything was written there, or counts.
func trimUntouched(t *testing.T, name string, list []impl.Step) {
	t.Helper()
	want, roomy := impl.Trim(list), stepsRoomy(list)
	before := slices.Clone(roomy[:cap(roomy)])
	wantTrim(t, name+" with room", roomy, want)
	if !slices.Equal(roomy[:cap(roomy)], before) {
		t.Errorf("%s: an argument was written into", name)
	}
}

// Promise 21: neither code nor the spare room behind it is written into, and none of it counts.
func TestTrimWritesIntoNothing(t *testing.T) {
	trimUntouched(t, "no step", nil)
	for _, c := range trimCases() {
		trimUntouched(t, c.name, c.list)
		trimUntouched(t, c.name+" without its last step", c.list[:len(c.list)-1])
		trimUntouched(t, c.name+" with a jump behind", append(slices.Clone(c.list), maJump(-1)))
	}
	d := &drawer{x: 6}
	for range 300 {
		trimUntouched(t, "drawn", trimDrawn(d, 4+d.draw(30), 2))
	}
	trimUntouched(t, "as long as it may be", trimDrawn(d, 900, 2))
	trimUntouched(t, "too long", trimDrawn(d, 901, 2))
}

func TestTrimSameEachTime(t *testing.T) {
	for range 10 {
		lookTrims(t, trimCases())
		trimAsItWas(t, "no code", codeOf(maMove(1, 1), maJump(2)))
		wantIdle(t, "a move", maMove(1, 1), 0, true)
		wantIdle(t, "a jump", maJump(1), 1, false)
	}
}

// trimApart looks that an answer, and the room behind it, share no memory with the list, nor with another answer.
func trimApart(t *testing.T, name string, list []impl.Step) {
	t.Helper()
	given := slices.Clone(list)
	code, again := impl.Trim(given), impl.Trim(given)
	want := slices.Clone(code)
	for i := range code[:cap(code)] {
		code[:cap(code)][i] = impl.Step{Op: -99, N: i}
	}
	if !slices.Equal(given, list) || !slices.Equal(again, want) {
		t.Errorf("%s: an answer shares memory", name)
	}
	clear(given)
	if !slices.Equal(again, want) {
		t.Errorf("%s: an answer shares memory with an argument", name)
	}
	wantTrim(t, name, list, want)
}

func TestTrimAnswersAreNew(t *testing.T) {
	for _, c := range trimCases() {
		trimApart(t, c.name, c.list)
		trimApart(t, c.name+" without its last step", c.list[:len(c.list)-1])
		trimApart(t, c.name+" with a move behind", append(slices.Clone(c.list), maMove(1, 1)))
	}
	d := &drawer{x: 66}
	for range 300 {
		trimApart(t, "drawn", trimDrawn(d, 4+d.draw(30), 2))
	}
	trimApart(t, "too long", trimDrawn(d, 901, 2))
	roomy := codeOf(maMove(1, 1), maEnd(0))[:0]
	none := impl.Trim(roomy)
	_ = append(none, maOut(5))
	if roomy[:1][0] != maMove(1, 1) {
		t.Error("an answer of no step has the room of the list")
	}
}
