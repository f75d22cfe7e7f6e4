package tests

import (
	"math"
	"reflect"
	"runtime"
	"slices"
	"strings"
	"sync"
	"testing"
	"time"

	"loop.example/g00192/impl"
)

// A compileCase is a program that is compiled, the lines of its text, and what it tells of what is there to read.
type compileCase struct {
	name  string
	f     impl.Fn
	lines []string
	reads []int
	told  []int
	how   int
	end   int
}

// A compileFit is a program for which there is room; not so as it is given, folded alone, or pruned alone: for what is told then.
type compileFit struct {
	name                  string
	f                     impl.Fn
	whole, folded, pruned string
}

// compileCells stores what it reads into a cell, and loads it from there; the cell is read, too.
func compileCells() impl.Fn {
	return oneBlock(4, 3, insRead(0), insRead(1), insStore(0, 1), insOut(0), insLoad(2, 0), insOut(2), insAdd(3, 2, 2))
}

// compileWords has every op of two values that are read.
func compileWords() impl.Fn {
	f := oneBlock(12, 11, insRead(0), insRead(1))
	for i, op := range wellOps {
		addPlace(&f, 0, insOp(op, 2+i, 0, 1))
		addPlace(&f, 0, insOut(2+i))
	}
	return f
}

func compileOrdinary() []compileCase {
	join := []string{"read r0", "zero r0 3", "jump 6", "set r1 2", "out r1", "jump 7", "set r1 1", "add r0 r1 r0", "end r0"}
	loop := []string{"set r1 3", "set r0 1", "set r2 0", "move r3 r2", "zero r1 6", "jump 7", "end r3", "out r1", "sub r2 r1 r0", "add r3 r3 r1", "move r1 r2", "jump 4"}
	until := []string{"read r1", "set r0 -1", "set r2 0", "out r1", "add r3 r1 r0", "zero r3 7", "jump 8", "end r2", "move r2 r1", "move r1 r3", "jump 3"}
	echo := []string{"set r1 9", "read r0", "zero r0 4", "jump 5", "end r1", "out r0", "jump 1"}
	cells := []string{"read r0", "read r1", "store r0 r1", "out r0", "load r0 r0", "out r0", "add r0 r0 r0", "end r0"}
	return []compileCase{
		{"a number", oneBlock(1, 0, insConst(0, 5)), []string{"set r0 5", "end r0"}, nil, nil, impl.RnDone, 5},
		{"the least number", oneBlock(1, 0, insConst(0, math.MinInt)), []string{"set r0 -9223372036854775808", "end r0"}, nil, nil, impl.RnDone, math.MinInt},
		{"one block", emitRow(), []string{"read r0", "read r1", "add r0 r0 r1", "out r0", "end r0"}, []int{4, 5}, []int{9}, impl.RnDone, 9},
		{"straight on", checkStraight(), []string{"set r0 7", "read r1", "add r1 r0 r1", "out r1", "add r0 r1 r0", "end r0"}, []int{5}, []int{12}, impl.RnDone, 19},
		{"a choice, To", checkJoin(), join, []int{4}, nil, impl.RnDone, 5},
		{"a choice, Else", checkJoin(), join, []int{0}, []int{2}, impl.RnDone, 2},
		{"a loop", checkLoop(), loop, nil, []int{3, 2, 1}, impl.RnDone, 6},
		{"a loop with an edge that is critical", edgeUntil(1, 1), until, []int{4}, []int{4, 3, 2, 1}, impl.RnDone, 2},
		{"reads and tells", runEcho(), echo, []int{3, -2, 8}, []int{3, -2, 8}, impl.RnDone, 9},
		{"reads and tells nothing", runEcho(), echo, nil, nil, impl.RnDone, 9},
		{"a cell", compileCells(), cells, []int{7, 20}, []int{7, 20}, impl.RnDone, 40},
		{"a cell that is none", compileCells(), cells, []int{8, 20}, nil, impl.RnCell, 0},
		{"a cell below all", compileCells(), cells, []int{-1, 20}, nil, impl.RnCell, 0},
		{"all is known", oneBlock(4, 3, insConst(0, 6), insConst(1, 7), insOp(impl.OpMul, 2, 0, 1), insOut(2), insAdd(3, 2, 0)),
			[]string{"set r0 42", "out r0", "set r0 48", "end r0"}, nil, []int{42}, impl.RnDone, 48},
		{"much that nobody takes", oneBlock(5, 1, insRead(0), insRead(1), insAdd(2, 0, 1), insOp(impl.OpMul, 3, 2, 2), insConst(4, 9)),
			[]string{"read r0", "read r0", "end r0"}, []int{4, 5}, nil, impl.RnDone, 5},
		{"all words", compileWords(), []string{"read r0", "read r1",
			"add r2 r0 r1", "out r2", "sub r2 r0 r1", "out r2", "mul r2 r0 r1", "out r2", "and r2 r0 r1", "out r2", "or r2 r0 r1", "out r2",
			"xor r2 r0 r1", "out r2", "less r2 r0 r1", "out r2", "same r2 r0 r1", "out r2", "left r2 r0 r1", "out r2", "right r0 r0 r1", "out r0", "end r0"},
			[]int{-12, 3}, []int{-9, -15, -36, 0, -9, -9, 1, 0, -96, -2}, impl.RnDone, -2},
	}
}

// compileMore are programs whose code goes by slots, by circles, or has no end.
func compileMore() []compileCase {
	six := []string{"read r0", "read r1", "read r2", "read r3", "read r6", "put s0 r6", "read r6", "put s1 r6", "out r0", "out r1", "out r2", "out r3",
		"get r4 s0", "out r4", "get r4 s1", "out r4", "get r4 s1", "end r4"}
	fib := []string{"read r3", "set r1 0", "set r0 1", "move r2 r0", "put s0 r3", "get r4 s0", "zero r4 8", "jump 9", "end r1",
		"out r1", "add r3 r1 r2", "get r4 s0", "sub r6 r4 r0", "put s0 r6", "move r1 r2", "move r2 r3", "jump 5"}
	turn := []string{"set r0 100", "set r1 101", "read r2", "out r0", "out r1", "zero r2 7", "jump 8", "end r0", "move r2 r0", "move r0 r1", "move r1 r2", "jump 2"}
	return []compileCase{
		{"more values than registers", homeClique(6), six, []int{11, 12, 13, 14, 15, 16}, []int{11, 12, 13, 14, 15, 16}, impl.RnDone, 16},
		{"a loop with a slot", runFib(), fib, []int{5}, []int{0, 1, 1, 2, 3}, impl.RnDone, 5},
		{"a loop with a slot, never gone through", runFib(), fib, nil, nil, impl.RnDone, 0},
		{"phis that turn in a circle", plainRing(11, 10), turn, []int{1, 1, 0}, []int{100, 101, 101, 100, 100, 101}, impl.RnDone, 100},
		{"no value and no end", progOf(0, blockOf(graphTo(1)), blockOf(graphTo(1))), []string{"jump 0"}, nil, nil, impl.RnFuel, 0},
		{"a choice between one and the same block", progOf(1, blockOf(termBranch(0, 1, 1), insRead(0)), blockOf(termBack(0))), []string{"read r0", "zero r0 2", "end r0"}, []int{8}, nil, impl.RnDone, 8},
		{"blocks with nothing but a TmBack", progOf(2, blockOf(termBranch(0, 1, 2), insRead(0), insRead(1)), blockOf(termBack(0)), blockOf(termBack(1))),
			[]string{"read r0", "read r1", "zero r0 4", "jump 5", "end r1", "end r0"}, []int{0, 7}, nil, impl.RnDone, 7},
	}
}

func compileCases() []compileCase { return slices.Concat(compileOrdinary(), compileMore()) }

// wantCompile holds Compile against what is wanted, and Ratio, which goes by the same text and by the program that is given.
func wantCompile(t *testing.T, name string, f impl.Fn, text string, code int) {
	t.Helper()
	got, how := impl.Compile(f)
	if got != text || how != code {
		t.Errorf("%s: Compile is %q, %d, not %q, %d: %+v", name, got, how, text, code, f)
	}
	steps, cost := 0, 0
	if code == impl.CmDone {
		steps, cost = strings.Count(text, "\n"), costModel(f)+len(f.Blocks)
	}
	wantRatio(t, name, f, steps, cost)
}

func wantRatio(t *testing.T, name string, f impl.Fn, steps, cost int) {
	t.Helper()
	if n, c := impl.Ratio(f); n != steps || c != cost {
		t.Errorf("%s: Ratio is %d, %d, not %d, %d: %+v", name, n, c, steps, cost, f)
	}
}

// compileRefused is what is answered of a program that has no text.
func compileRefused(t *testing.T, name string, f impl.Fn, code int) {
	t.Helper()
	wantCompile(t, name, f, "", code)
}

func wantText(t *testing.T, name, text string, reads []int, fuel int, want runCase) {
	t.Helper()
	told, how, end := impl.RunText(text, reads, fuel)
	if !slices.Equal(told, want.told) || how != want.how || end != want.end {
		t.Errorf("%s, fuel %d, reads %v: RunText is %v, %d, %d, not %v, %d, %d: %q", name, fuel, reads, told, how, end, want.told, want.how, want.end, text)
	}
}

func lookCompile(t *testing.T, c compileCase) {
	t.Helper()
	wantWell(t, c.name, c.f)
	wantCompile(t, c.name, c.f, textOf(c.lines...), impl.CmDone)
	wantText(t, c.name, textOf(c.lines...), c.reads, 1000, runCase{told: c.told, how: c.how, end: c.end})
}

func lookCompiles(t *testing.T, cases []compileCase) {
	t.Helper()
	for _, c := range cases {
		lookCompile(t, c)
	}
}

func TestCompileNumbers(t *testing.T) {
	if impl.CmDone != 0 || impl.CmCheck != 1 || impl.CmLimit != 2 {
		t.Error(impl.CmDone, impl.CmCheck, impl.CmLimit)
	}
}

func TestCompileOrdinary(t *testing.T) { lookCompiles(t, compileOrdinary()) }

func TestCompileMore(t *testing.T) { lookCompiles(t, compileMore()) }

// Ratio, by hand: the steps of the text, and the phis, places and blocks of what is given, be they folded, pruned or split.
func TestCompileRatio(t *testing.T) {
	for _, c := range []struct {
		name        string
		f           impl.Fn
		steps, cost int
	}{
		{"a number", oneBlock(1, 0, insConst(0, 5)), 2, 2},
		{"one block", emitRow(), 5, 5},
		{"a loop", checkLoop(), 12, 12},
		{"a loop with an edge that is critical", edgeUntil(1, 1), 11, 10},
		{"a loop in a loop, with an edge that is critical", checkNest(), 16, 15},
		{"all is known", oneBlock(4, 3, insConst(0, 6), insConst(1, 7), insOp(impl.OpMul, 2, 0, 1), insOut(2), insAdd(3, 2, 0)), 4, 6},
		{"much that nobody takes", oneBlock(5, 1, insRead(0), insRead(1), insAdd(2, 0, 1), insOp(impl.OpMul, 3, 2, 2), insConst(4, 9)), 3, 6},
		{"slots", homeClique(6), 18, 20},
		{"no place at all", progOf(0, blockOf(graphTo(1)), blockOf(graphTo(1))), 1, 2},
		{"none", impl.Fn{}, 0, 0},
		{"an end alone, by what is nowhere made", progOf(1, blockOf(termBack(0))), 0, 0},
		{"a block too many when it is split", edgeComb(1, 7, 1), 0, 0},
	} {
		wantRatio(t, c.name, c.f, c.steps, c.cost)
	}
}

// smallerModel is Prune of Fold.
func smallerModel(f impl.Fn) impl.Fn {
	folded := foldModel(f)
	return smallWithout(folded, goneModel(folded))
}

// roomModel goes by the words for all that is behind Fold and Prune: the code, or what there is no room for.
func roomModel(f impl.Fn) ([]impl.Step, string) {
	f = splitModel(f)
	if len(f.Blocks) > 16 {
		return nil, "blocks"
	}
	p, ok := lowerModel(f)
	if f.Values > 79 {
		return nil, "values"
	}
	if !ok {
		return nil, "a list"
	}
	homes := guessModel(p)
	if homes == nil {
		return nil, "homes"
	}
	list, ok := emitCodeModel(renameModel(p, homes))
	if !ok {
		return nil, "code"
	}
	return trimModel(list), ""
}

// compileModel is the text, what Compile tells beside it, and what there is no room for.
func compileModel(f impl.Fn) (text string, code int, room string) {
	if checkModel(f) != impl.CkWell {
		return "", impl.CmCheck, ""
	}
	list, room := roomModel(smallerModel(f))
	if room != "" {
		return "", impl.CmLimit, room
	}
	return printModel(list), impl.CmDone, ""
}

// compileIs holds a program against the model; it tells what there is no room for, and the code.
func compileIs(t *testing.T, name string, f impl.Fn) (string, int) {
	t.Helper()
	text, code, room := compileModel(f)
	wantCompile(t, name, f, text, code)
	return room, code
}

// wantRoom looks at a program that is well, and of which just that limit is passed; none, where room is empty.
func wantRoom(t *testing.T, name string, f impl.Fn, room string) {
	t.Helper()
	wantWell(t, name, f)
	if got, _ := compileIs(t, name, f); got != room {
		t.Errorf("%s: no room for %q, not %q: %+v", name, got, room, f)
	}
}

func TestCompileModelOfCases(t *testing.T) {
	for _, c := range compileCases() {
		if text, code, _ := compileModel(c.f); text != textOf(c.lines...) || code != impl.CmDone {
			t.Errorf("%s: the model tells %q, %d", c.name, text, code)
		}
	}
}

// The text is what the layers tell one behind the other.
func TestCompileIsOfTheLayers(t *testing.T) {
	for _, c := range compileCases() {
		g, _ := impl.Split(impl.Prune(impl.Fold(c.f)))
		p, _ := impl.Lower(g)
		r, _ := impl.Renamed(p, impl.Guess(p))
		list, ok := impl.Emit(r)
		if !ok {
			t.Fatalf("%s: Emit is false", c.name)
		}
		wantCompile(t, c.name, c.f, impl.Print(impl.Trim(list)), impl.CmDone)
	}
}

// compileFuels holds RunText against RunMachine of what Parse tells, at the fuels next to nought and next to what is just enough.
func compileFuels(t *testing.T, name, text string, reads []int, need int) {
	t.Helper()
	list, _ := impl.Parse(text)
	for _, fuel := range []int{0, 1, 2, need / 2, need - 1, need, need + 1, 39999, 40000, 40001, math.MaxInt, -1, math.MinInt} {
		c := runCase{}
		c.told, c.how, c.end = impl.RunMachine(list, reads, fuel)
		wantText(t, name, text, reads, fuel, c)
	}
}

// compilePromise is promise 18 of one program that has a text. What comes to its end within 700 of fuel has enough as text, too,
// as no place and no end of a block with its copies takes more than some 55 steps.
func compilePromise(t *testing.T, name string, f impl.Fn, reads []int) int {
	t.Helper()
	text, code := impl.Compile(f)
	if code != impl.CmDone {
		t.Fatalf("%s: Compile is %d: %+v", name, code, f)
	}
	c := runCase{}
	c.told, c.how, c.end = impl.Run(f, reads, 700)
	if c.how == impl.RnFuel {
		told, how, end := impl.RunText(text, reads, math.MaxInt)
		if !isBeginning(c.told, told) || how == impl.RnBad || how != impl.RnDone && end != 0 {
			t.Errorf("%s, reads %v: RunText is %v, %d, %d, and Run tells %v: %+v", name, reads, told, how, end, c.told, f)
		}
		return c.how
	}
	list, _ := impl.Parse(text)
	need := machineModel(t, list, reads, 40000).need
	for _, fuel := range []int{need, need + 1, 40000, math.MaxInt} {
		wantText(t, name, text, reads, fuel, c)
	}
	for fuel := range min(need, 30) {
		less := min(fuel, need-1)
		told, how, end := impl.RunText(text, reads, less)
		if !isBeginning(told, c.told) || how != impl.RnFuel || end != 0 {
			t.Errorf("%s, fuel %d, reads %v: RunText is %v, %d, %d: %q", name, less, reads, told, how, end, text)
		}
	}
	wantText(t, name+", a step less", text, reads, need-1, runCase{told: c.told, how: impl.RnFuel})
	compileFuels(t, name, text, reads, need)
	return c.how
}

// compileReads are rows of numbers to be read.
func compileReads() [][]int {
	return [][]int{nil, {0}, {1}, {1, 1, 1}, {2, -1, 0, 4}, {0, 0, 7}, {7, 3, 5, 1}, {8, 0, 6, 0, 5}, {-1, 2}, {9, 9, 9}, {math.MinInt, math.MaxInt}, {64, 1 << 32, 3}}
}

// Promise 18: what a program is compiled to tells what the program tells.
func TestCompilePromise(t *testing.T) {
	for _, c := range compileCases() {
		for _, reads := range append(compileReads(), c.reads) {
			compilePromise(t, c.name, c.f, reads)
		}
	}
	for _, c := range slices.Concat(smallCases(), []smallCase{{name: "room for every mistake", f: smallSpoilt(), reads: []int{2}}}) {
		if c.f.Values < impl.MaxValues {
			compileEnds(t, c.name, c.f, c.reads)
		}
	}
	for _, c := range edgeCases() {
		compileEnds(t, c.name, c.f, c.reads)
	}
	for _, c := range plainCases() {
		compileEnds(t, c.name, c.f, c.reads)
	}
}

// compileEnds is the promise of a program with what it is meant to read, and with other rows.
func compileEnds(t *testing.T, name string, f impl.Fn, reads []int) {
	t.Helper()
	if room, _ := compileIs(t, name, f); room != "" {
		t.Errorf("%s: no room for %s", name, room)
	}
	for _, r := range [][]int{reads, nil, {1, 1, 1}, {2, -1, 0, 4}, {0, 3, 0}, {8, 7, 6}} {
		compilePromise(t, name, f, r)
	}
}

// A cell that is none ends the text as it ends the program: with what was told till then.
func TestCompileCells(t *testing.T) {
	seen := 0
	for _, c := range slices.Concat(runOrdinary(), runPhis(), runOdd(), runCellCases()) {
		if impl.Check(c.f) == impl.CkWell && c.f.Values < impl.MaxValues {
			compileEnds(t, c.name, c.f, c.reads)
		}
	}
	for _, cell := range []int{-1, 0, 1, 6, 7, 8, 9, 40, 1 << 32, math.MaxInt, math.MinInt} {
		load := oneBlock(4, 3, insRead(0), insOut(0), insLoad(1, 0), insConst(2, 4), insOut(2), insAdd(3, 1, 2))
		store := oneBlock(4, 3, insRead(0), insRead(1), insOut(1), insStore(0, 1), insOut(0), insLoad(2, 0), insOut(2), insAdd(3, 2, 2))
		nobody := oneBlock(3, 2, insRead(0), insOut(0), insLoad(1, 0), insConst(2, 4))
		for _, f := range []impl.Fn{load, store, nobody} {
			how := compilePromise(t, "cells", f, []int{cell, 31})
			if (how == impl.RnCell) != (cell < 0 || cell > 7) {
				t.Errorf("cell %d: it comes to %d: %+v", cell, how, f)
			}
			seen += flag(how == impl.RnCell)
		}
	}
	if seen != 21 {
		t.Error(seen)
	}
}

// Values that are all needed at once, from one to all homes: from Regs on they are in slots, and tell the same.
func TestCompileSlots(t *testing.T) {
	reads := []int{}
	for v := range impl.MaxHomes {
		reads = append(reads, 1000-7*v)
	}
	for n := 1; n <= impl.MaxHomes; n++ {
		f := homeClique(n)
		wantRoom(t, "slots", f, "")
		text, _ := impl.Compile(f)
		list, _ := impl.Parse(text)
		wantUses(t, "slots", list, homeBelow(max(n-impl.Regs, 0)))
		wantText(t, "slots", text, reads, 1000, runCase{told: reads[:n], how: impl.RnDone, end: reads[n-1]})
		compilePromise(t, "slots", f, reads)
	}
}

// compileHeavy has values that are needed all the way: they are read at first, and told wherever it ends.
func compileHeavy(d *drawer, f impl.Fn) impl.Fn {
	g := fnCopy(f)
	for range 3 + d.draw(6) {
		g.Blocks[0].List = slices.Insert(g.Blocks[0].List, 0, insRead(g.Values))
		for b := range g.Blocks {
			if g.Blocks[b].Term.Kind == impl.TmBack {
				addPlace(&g, b, insOut(g.Values))
			}
		}
		g.Values++
	}
	if !impl.ShapeOk(g) {
		return f
	}
	return g
}

func TestCompileDrawnPrograms(t *testing.T) {
	d := &drawer{x: 18}
	var codes, ends, slots [3]int
	wellDrawn(18, 30, func(f impl.Fn) {
		for _, g := range []impl.Fn{f, smallRicher(d, f), compileHeavy(d, f)} {
			_, code := compileIs(t, "drawn", g)
			codes[code]++
			if code != impl.CmDone {
				continue
			}
			for range 3 {
				ends[compilePromise(t, "drawn", g, runReads(d))]++
			}
			text, _ := impl.Compile(g)
			slots[flag(strings.Contains(text, "put s"))]++
		}
	})
	if codes[impl.CmDone] < 700 || codes[impl.CmCheck] > 0 || codes[impl.CmLimit] < 200 || slices.Min(ends[:]) < 200 || slots[1] < 200 {
		t.Error(codes, ends, slots)
	}
}

// Drawn programs of which one number was changed, well ones and others.
func TestCompileChangedPrograms(t *testing.T) {
	d := &drawer{x: 188}
	var codes [3]int
	var checks [7]int
	wellDrawn(181, 40, func(f impl.Fn) {
		for range 5 {
			g := fnCopy(f)
			checkChange(d, g)
			checks[impl.Check(g)]++
			_, code := compileIs(t, "changed", g)
			codes[code]++
			if code == impl.CmDone {
				compilePromise(t, "changed", g, runReads(d))
			}
		}
	})
	if slices.Min(codes[:]) < 200 || slices.Min(checks[:]) < 20 {
		t.Error(codes, checks)
	}
}

// All small programs: up to three blocks, with a phi where two ways meet.
func TestCompileSmallPrograms(t *testing.T) {
	var codes, ends [3]int
	for n := 1; n <= 3; n++ {
		graphEach(n, func(f impl.Fn) {
			for at := range n {
				g := fnCopy(f)
				g.Values = 4
				g.Blocks[0].List = []impl.Ins{insRead(0), insConst(1, 3)}
				p := impl.Phi{D: 2}
				for _, from := range graphModel(f).preds[at] {
					p.Arms = append(p.Arms, impl.Arm{From: from, V: from % 2})
				}
				g.Blocks[at].Phis = []impl.Phi{p}
				g.Blocks[at].List = append(g.Blocks[at].List, insOut(2), insRead(3), insOut(3))
				_, code := compileIs(t, "small", g)
				codes[code]++
				if code == impl.CmDone {
					ends[compilePromise(t, "small", g, []int{1, 0, 2})]++
				}
			}
		})
	}
	if codes[impl.CmDone] < 20 || codes[impl.CmCheck] < 1000 || ends[impl.RnDone] < 10 || ends[impl.RnFuel] < 10 {
		t.Error(codes, ends)
	}
}

// The longest run that there is has fuel enough as text; what has more copies on its way than places may have none left, and has
// then told the beginning.
func TestCompileLongRuns(t *testing.T) {
	for more := range 2 {
		f := runCount(more)
		text, _ := impl.Compile(f)
		for _, n := range []int{0, 700, 1664, 1665} {
			wantText(t, "a long run", text, []int{n}, math.MaxInt, runCase{how: impl.RnDone, end: n})
		}
	}
	ones := slices.Repeat([]int{1}, 5000)
	for _, f := range []impl.Fn{runForever(), plainGreatRing(4), plainGreatRing(20), edgeUntil(1, 1), runEcho()} {
		text, _ := impl.Compile(f)
		want, _, _ := impl.Run(f, ones, math.MaxInt)
		told, how, _ := impl.RunText(text, ones, math.MaxInt)
		if how == impl.RnBad || !isBeginning(told, want) && !isBeginning(want, told) {
			t.Errorf("RunText is %d, and tells %d numbers, Run %d: %q", how, len(told), len(want), text)
		}
	}
	ring := plainGreatRing(20)
	text, _ := impl.Compile(ring)
	reads := append(ones[:1000:1000], 0)
	want, how, _ := impl.Run(ring, reads, math.MaxInt)
	told, short, end := impl.RunText(text, reads, math.MaxInt)
	if how != impl.RnDone || short != impl.RnFuel || end != 0 || !isBeginning(told, want) || len(told) < 500 {
		t.Errorf("Run is %d, RunText %d, %d, and tells %d of %d numbers", how, short, end, len(told), len(want))
	}
}

// Limits: as many blocks as there may be when it is split, and one more.
func TestCompileLimitsOfBlocks(t *testing.T) {
	var seen [2]int
	for branches := range 15 {
		for straight := range 15 - branches {
			f := edgeComb(straight, branches, 1)
			n := straight + 2*branches + 2
			if n > impl.MaxBlocks {
				wantRoom(t, "a comb", f, "blocks")
			} else {
				wantRoom(t, "a comb", f, "")
				compilePromise(t, "a comb", f, []int{branches % 2, 3})
			}
			if n-impl.MaxBlocks == 0 || n-impl.MaxBlocks == 1 {
				seen[n-impl.MaxBlocks]++
			}
		}
	}
	if seen != [2]int{8, 7} {
		t.Error(seen)
	}
	f := edgeComb(14, 0, 1)
	f.Blocks[15].Term = graphTo(16)
	f.Blocks = append(f.Blocks, blockOf(termBack(1)))
	compileRefused(t, "a block too many ahead of all", f, impl.CmCheck)
}

// A list that is just full with its copies, and one more.
func TestCompileLimitsOfLists(t *testing.T) {
	for phis := 1; phis <= impl.MaxList; phis++ {
		just := plainFull(impl.MaxList-phis, phis)
		wantRoom(t, "just full", just, "")
		compilePromise(t, "just full", just, []int{3})
		wantRoom(t, "one too many", plainFull(impl.MaxList-phis+1, phis), "a list")
	}
	wantRoom(t, "no phi, just full", plainFull(impl.MaxList, 0), "")
	compileRefused(t, "no phi, one too many", plainFull(impl.MaxList+1, 0), impl.CmCheck)
	compileRefused(t, "a phi too many", plainFull(0, impl.MaxList+1), impl.CmCheck)
	wantRoom(t, "the greatest circle but one", plainGreatRing(impl.MaxList-1), "")
	wantRoom(t, "the greatest circle", plainGreatRing(impl.MaxList), "a list")
	for _, list := range [][]impl.Move{moveRound(0, 2), moveRound(0, 7), slices.Concat(moveRound(0, 3), moveRound(3, 5)), movesOf([2]int{0, 1}, [2]int{1, 2})} {
		f := plainMoves(list, 8)
		for p, _ := lowerModel(f); len(p.Blocks[2].List) < impl.MaxList; p, _ = lowerModel(f) {
			addPlace(&f, 2, insOut(0))
		}
		wantRoom(t, "moves, just full", f, "")
		compilePromise(t, "moves, just full", f, []int{1, 1, 0})
		addPlace(&f, 2, insOut(0))
		wantRoom(t, "moves, one too many", f, "a list")
	}
}

// One value less than MaxValues is enough for the one more that copies take; values that nobody makes count, too.
func TestCompileLimitsOfValues(t *testing.T) {
	for _, c := range slices.Concat(compileCases(), []compileCase{{name: "a loop in a loop", f: checkNest()}}) {
		f := fnCopy(c.f)
		text, _ := impl.Compile(f)
		f.Values = impl.MaxValues - 1
		wantRoom(t, c.name+": many values", f, "")
		wantCompile(t, c.name+": many values", f, text, impl.CmDone)
		f.Values = impl.MaxValues
		wantRoom(t, c.name+": one too many", f, "values")
		f.Values++
		compileRefused(t, c.name+": too many ahead of all", f, impl.CmCheck)
	}
}

// compileUnlucky has so many values that are needed all the way, and four in a row, of which only two are needed at once; but the
// first and the last of these, which have others beside, come ahead, and get one home.
func compileUnlucky(all int) impl.Fn {
	f := homeClique(all)
	f.Values = all + 8
	f.Blocks = slices.Insert(f.Blocks, 4, blockOf(graphTo(5)))
	for b := range f.Blocks {
		f.Blocks[b].Term = graphTo(b + 1)
	}
	f.Blocks[8].Term = termBack(all - 1)
	a, b, c, d := all, all+1, all+2, all+3
	f.Blocks[4].List = []impl.Ins{insRead(a),
		insRead(all + 4), insOut(all + 4), insRead(all + 5), insOut(all + 5),
		insRead(b), insOut(a), insRead(c), insOut(b), insRead(d), insOut(c),
		insRead(all + 6), insOut(all + 6), insRead(all + 7), insOut(all + 7), insOut(d)}
	return f
}

// All homes are taken, and there is one too few; also where there would be enough, if another one came ahead.
func TestCompileLimitsOfHomes(t *testing.T) {
	for _, n := range []int{38, 39, 40, 41, 42, 60, 79} {
		room := ""
		if n > impl.MaxHomes {
			room = "homes"
		}
		wantRoom(t, "values that clash", homeClique(n), room)
	}
	just := compileUnlucky(impl.MaxHomes - 3)
	wantRoom(t, "just all homes", just, "")
	compilePromise(t, "just all homes", just, homeBelow(60))
	over := compileUnlucky(impl.MaxHomes - 2)
	wantRoom(t, "one home too few", over, "homes")
	p, _ := impl.Lower(over)
	if got := impl.Busy(p); got != impl.MaxHomes {
		t.Errorf("Busy is %d, so that there are no homes anyway", got)
	}
}

// compileLong is a row of blocks whose code has just so many steps ahead of Trim: six values are needed all the way, of which two are
// in slots, so that a store of these is three steps.
func compileLong(n int) impl.Fn {
	f := progOf(6, blockOf(graphTo(1), insRead(0), insRead(1), insRead(2), insRead(3), insRead(4), insRead(5)))
	block := blockOf(termBack(0), insStore(2, 3), insOut(1), insStore(4, 5))
	for left := n - 8 - 1 - 5 - 1; ; left-- {
		for len(block.List) < impl.MaxList && left > 0 {
			x := insStore(5, 4)
			if left < 6 {
				x = insOut(0)
			}
			block.List = append(block.List, x)
			left -= 1 + 2*flag(x.Op == impl.InStore)
		}
		f.Blocks = append(f.Blocks, block)
		if left == 0 {
			return f
		}
		f.Blocks[len(f.Blocks)-1].Term = graphTo(len(f.Blocks))
		block = blockOf(termBack(0))
	}
}

// compileUntrimmed is how many steps the code of a program has ahead of Trim.
func compileUntrimmed(f impl.Fn) int {
	g, _ := impl.Split(f)
	p, _ := impl.Lower(g)
	r, _ := impl.Renamed(p, impl.Guess(p))
	list, _ := impl.Emit(r)
	return len(list)
}

// Code of just MaxCode steps, and of one more: what counts is how long it is ahead of Trim.
func TestCompileLimitsOfCode(t *testing.T) {
	reads := []int{1, 2, 3, 4, 5, 6, 7}
	for _, n := range []int{16, 100, 500, 890, 897, 898, 899, 900} {
		f := compileLong(n)
		if got := compileUntrimmed(f); got != n {
			t.Errorf("it has %d steps, not %d: %+v", got, n, f)
		}
		wantRoom(t, "long", f, "")
		compilePromise(t, "long", f, reads)
		if steps, _ := impl.Ratio(f); steps != n-len(f.Blocks)+1 {
			t.Errorf("of %d steps %d are left", n, steps)
		}
	}
	for _, n := range []int{901, 902, 903, 904, 905, 906, 907, 910, 950, 1000} {
		wantRoom(t, "too long", compileLong(n), "code")
	}
}

// compileBranches has as many blocks as there may be, and a choice between two with a phi of one arm each, which nobody takes.
func compileBranches(taken int) impl.Fn {
	f := progOf(4,
		blockOf(termBranch(0, 1, 2), insRead(0), insRead(1)),
		withPhis(blockOf(graphTo(3)), phiOf(2, [2]int{0, 1})),
		withPhis(blockOf(graphTo(3)), phiOf(3, [2]int{0, 1})))
	for b := 3; b < impl.MaxBlocks; b++ {
		f.Blocks = append(f.Blocks, blockOf(graphTo(b+1)))
	}
	f.Blocks[impl.MaxBlocks-1].Term = termBack(0)
	for i := range taken {
		addPlace(&f, 1+i, insOut(2+i))
	}
	return f
}

// compileListOf has so many places that tell, four phis behind it, and some places more.
func compileListOf(places int, more ...impl.Ins) impl.Fn {
	f := plainFull(places, 4)
	f.Values += 2
	f.Blocks[1].List = append(f.Blocks[1].List, more...)
	return f
}

// compileKnown has as many values that are needed at once as there are homes, and one more that is known.
func compileKnown() impl.Fn {
	f := homeClique(impl.MaxHomes)
	f.Values += 2
	f.Blocks[0].List = slices.Insert(f.Blocks[0].List, 0, insConst(40, 21))
	addPlace(&f, 7, insAdd(41, 40, 40))
	addPlace(&f, 7, insOut(41))
	return f
}

// compileLess are programs for which there is room only as they are folded, pruned or both.
func compileLess() []compileFit {
	unused := plainFull(20, 5)
	unused.Blocks[2].List = unused.Blocks[2].List[1:]
	long := compileLong(900)
	long.Values++
	addPlace(&long, len(long.Blocks)-1, insConst(6, 1))
	dead := homeClique(impl.MaxHomes)
	dead.Values += 2
	dead.Blocks[0].List = slices.Insert(dead.Blocks[0].List, 0, insConst(40, 21))
	addPlace(&dead, 7, insAdd(41, 40, 0))
	return []compileFit{
		{"phis that nobody takes, in blocks that no other comes to", compileBranches(0), "blocks", "blocks", ""},
		{"a place that nobody takes", compileListOf(20, insConst(5, 1)), "a list", "a list", ""},
		{"places that are known", compileListOf(18, insConst(5, 1), insAdd(6, 5, 5), insOut(6)), "a list", "a list", "a list"},
		{"a phi that nobody takes", unused, "a list", "a list", ""},
		{"a value that is known", compileKnown(), "homes", "", "homes"},
		{"a value that nobody takes", dead, "homes", "homes", ""},
		{"a step that nobody takes", long, "code", "code", ""},
	}
}

func roomOf(f impl.Fn) string {
	_, room := roomModel(f)
	return room
}

// What is folded and pruned fits, though it would not fit as it was: for each limit but that of the values, which stay as many.
func TestCompileSmallerFits(t *testing.T) {
	for _, c := range compileLess() {
		wantWell(t, c.name, c.f)
		if got := roomOf(c.f); got != c.whole {
			t.Errorf("%s, as it was: no room for %q, not %q", c.name, got, c.whole)
		}
		if got := roomOf(foldModel(c.f)); got != c.folded {
			t.Errorf("%s, folded: no room for %q, not %q", c.name, got, c.folded)
		}
		if got := roomOf(smallWithout(c.f, goneModel(c.f))); got != c.pruned {
			t.Errorf("%s, pruned: no room for %q, not %q", c.name, got, c.pruned)
		}
		wantRoom(t, c.name, c.f, "")
		compilePromise(t, c.name, c.f, homeBelow(45))
	}
	for taken := 1; taken <= 2; taken++ {
		wantRoom(t, "a phi that is taken", compileBranches(taken), "blocks")
	}
	values := oneBlock(impl.MaxValues, 0, insConst(0, 1), insConst(impl.MaxValues-1, 2))
	wantRoom(t, "a value that nobody takes is one all the same", values, "values")
}

// compileTails make of checkSpoilt a program that is well, and of which just one limit is passed.
func compileTails() map[string]func(f *impl.Fn) {
	behind := func(f *impl.Fn, blocks ...impl.Block) {
		f.Blocks[5].Term = graphTo(6)
		f.Blocks = append(f.Blocks, blocks...)
	}
	return map[string]func(f *impl.Fn){
		"values": func(f *impl.Fn) { f.Values = impl.MaxValues },
		"blocks": func(f *impl.Fn) {
			for b := 7; b < 13; b++ {
				behind(f, blockOf(termBranch(6, 13, b)))
			}
			behind(f, blockOf(graphTo(13)), blockOf(termBack(6)))
		},
		"a list": func(f *impl.Fn) {
			f.Values = 13
			behind(f, blockOf(graphTo(7), slices.Repeat([]impl.Ins{insOut(6)}, impl.MaxList)...),
				withPhis(blockOf(termBack(12)), phiOf(12, [2]int{6, 6})))
		},
		"homes": func(f *impl.Fn) {
			f.Values = 12 + impl.MaxHomes + 1
			behind(f, blockOf(graphTo(7)), blockOf(graphTo(8)), blockOf(graphTo(9)), blockOf(termBack(6)))
			for v := range impl.MaxHomes + 1 {
				addPlace(f, 6+v/21, insRead(12+v))
				addPlace(f, 8+v/21, insOut(12+v))
			}
		},
		"code": func(f *impl.Fn) {
			f.Values = 18
			for v := 12; v < 18; v++ {
				addPlace(f, 0, insRead(v))
			}
			for b := 7; b < 15; b++ {
				behind(f, blockOf(graphTo(b)))
			}
			behind(f, blockOf(termBack(12), insOut(13), insOut(14), insOut(15)))
			for b := range f.Blocks {
				for len(f.Blocks[b].List) < impl.MaxList-1 {
					addPlace(f, b, insStore(17, 16))
				}
			}
		},
	}
}

// Where a limit would be passed, too, and the look finds something, it is the look that counts.
func TestCompileFirst(t *testing.T) {
	spoils := checkSpoils()
	spoils[1].spoil = func(f *impl.Fn) { addPlace(f, 0, insOut(f.Values)) }
	var seen [7]int
	for room, tail := range compileTails() {
		over := checkSpoilt()
		tail(&over)
		wantRoom(t, "over", over, room)
		for i, a := range spoils {
			f := fnCopy(over)
			a.spoil(&f)
			seen[impl.Check(f)]++
			compileRefused(t, room+", "+a.name, f, impl.CmCheck)
			for _, b := range spoils[i+1:] {
				g := fnCopy(f)
				b.spoil(&g)
				compileRefused(t, room+", "+a.name+", "+b.name, g, impl.CmCheck)
			}
		}
	}
	if seen[impl.CkWell] > 0 || slices.Min(seen[1:]) < 5 {
		t.Error(seen)
	}
}

// One program and more for each code of Check, and one for each two mistakes at once, of a program that has a text.
func TestCompileNotWell(t *testing.T) {
	compilePromise(t, "room for every mistake", smallSpoilt(), []int{2})
	var seen [7]int
	list := smallSpoils()
	for i, a := range list {
		f := smallSpoilt()
		a.spoil(&f)
		seen[impl.Check(f)]++
		compileRefused(t, a.name, f, impl.CmCheck)
		for _, b := range list[i+1:] {
			g := fnCopy(f)
			b.spoil(&g)
			compileRefused(t, a.name+", "+b.name, g, impl.CmCheck)
		}
	}
	if seen[impl.CkWell] > 0 || slices.Min(seen[1:]) < 1 {
		t.Error(seen)
	}
}

func TestCompileNotWellElsewhere(t *testing.T) {
	for _, c := range checkCases() {
		if c.want != impl.CkWell {
			compileRefused(t, c.name, c.f, impl.CmCheck)
		}
	}
	for _, c := range edgeOdd() {
		compileRefused(t, c.name, c.f, impl.CmCheck)
	}
	for _, f := range slices.Concat(plainNoShape(), graphSpoiled()) {
		compileRefused(t, "not ShapeOk", f, impl.CmCheck)
	}
	for _, c := range compileCases() {
		g, _ := impl.Split(c.f)
		p, _ := impl.Lower(g)
		if len(impl.Targets(p)) > 0 {
			compileRefused(t, c.name+": lowered it has an InCopy", p, impl.CmCheck)
		}
		for _, v := range []int{0, max(c.f.Values-1, 0)} {
			f := fnCopy(c.f)
			addPlace(&f, len(f.Blocks)-1, insCopy(v, v))
			compileRefused(t, c.name+": with an InCopy", f, impl.CmCheck)
		}
	}
	for _, f := range []impl.Fn{{}, {Values: 3}, {Values: 3, Blocks: []impl.Block{}}, {Blocks: []impl.Block{{}}}, fnFull(), {Blocks: make([]impl.Block, 1<<16)}} {
		compileRefused(t, "none", f, impl.CmCheck)
	}
	compileRefused(t, "nothing but a TmBack", progOf(1, blockOf(termBack(0))), impl.CmCheck)
	compileRefused(t, "nothing but a TmBack, and no value", progOf(0, blockOf(termBack(0))), impl.CmCheck)
}

// textNothing is what is told of a text that is no code's, or with fuel below 0.
func textNothing(t *testing.T, name, text string, fuel int) {
	t.Helper()
	for _, reads := range [][]int{nil, {1, 2, 3}} {
		wantText(t, name, text, reads, fuel, runCase{how: impl.RnBad})
	}
}

func TestCompileTextOfNoCode(t *testing.T) {
	fuels := []int{0, 1, 5, 40000, math.MaxInt, -1, math.MinInt}
	texts := []string{"", "x", "\n", " ", "end r0", "end r0 \n", "end r8\n", "out r1\n", "jump 1\n", "set r1 05\nend r0\n", "end r0\n\n", "END r0\n", "end r0\nx", "\xff\n", "end r0\r\n"}
	for _, fuel := range fuels {
		for _, text := range texts {
			textNothing(t, "no code", text, fuel)
		}
		textNothing(t, "too long", strings.Repeat("end r0\n", 901), fuel)
	}
	for _, fuel := range []int{-1, -2, -5000, math.MinInt} {
		textNothing(t, "fuel below nought", "end r0\n", fuel)
		textNothing(t, "fuel below nought", "out r8\n", fuel)
		for _, c := range compileCases() {
			textNothing(t, c.name, textOf(c.lines...), fuel)
		}
	}
	wantText(t, "as long as it may be", strings.Repeat("end r0\n", 900), nil, 1, runCase{how: impl.RnDone})
}

// By hand: no fuel, one, just enough, and one less.
func TestCompileTextFuel(t *testing.T) {
	for _, c := range []struct {
		text string
		fuel int
		want runCase
	}{
		{"end r0\n", 0, runCase{how: impl.RnFuel}},
		{"end r0\n", 1, runCase{how: impl.RnDone}},
		{"jump 0\n", math.MaxInt, runCase{how: impl.RnFuel}},
		{"set r1 7\nout r1\nend r1\n", 1, runCase{how: impl.RnFuel}},
		{"set r1 7\nout r1\nend r1\n", 2, runCase{told: []int{7}, how: impl.RnFuel}},
		{"set r1 7\nout r1\nend r1\n", 3, runCase{told: []int{7}, how: impl.RnDone, end: 7}},
		{"set r1 8\nout r1\nload r0 r1\nend r1\n", 2, runCase{told: []int{8}, how: impl.RnFuel}},
		{"set r1 8\nout r1\nload r0 r1\nend r1\n", 3, runCase{told: []int{8}, how: impl.RnCell}},
		{"read r0\nzero r0 4\nout r0\njump 0\nend r7\n", 12, runCase{told: []int{4, 5}, how: impl.RnDone}},
		{"read r0\nzero r0 4\nout r0\njump 0\nend r7\n", 11, runCase{told: []int{4, 5}, how: impl.RnDone}},
		{"read r0\nzero r0 4\nout r0\njump 0\nend r7\n", 10, runCase{told: []int{4, 5}, how: impl.RnFuel}},
	} {
		wantText(t, "by hand", c.text, []int{4, 5}, c.fuel, c.want)
	}
}

// textRuns holds RunText of any text against a reader and a machine by the words.
func textRuns(t *testing.T, r *textReader, name, text string, reads []int) bool {
	t.Helper()
	list, ok := r.code(text)
	if !ok {
		textNothing(t, name, text, 50)
		return false
	}
	m := machineModel(t, list, reads, 200)
	want := runCase{told: m.told, how: m.how, end: m.end}
	wantText(t, name, text, reads, 200, want)
	compileFuels(t, name, text, reads, m.need)
	return true
}

func TestCompileDrawnTexts(t *testing.T) {
	r := newTextReader()
	d := &drawer{x: 1800}
	var seen [2]int
	for range 1500 {
		text := impl.Print(machineDrawn(d, 4+d.draw(20)))
		if !textRuns(t, r, "drawn", text, runReads(d)) {
			t.Errorf("it is not read: %q", text)
		}
		seen[flag(textRuns(t, r, "changed", textChanged(d, text), runReads(d)))]++
	}
	if seen[0] < 500 || seen[1] < 10 {
		t.Error(seen)
	}
	for _, c := range textCases() {
		textRuns(t, r, c.name, textOf(c.lines...), []int{3, 0, 5})
	}
}

// The texts of programs cut short: at each byte, from the end and from the beginning.
func TestCompileTextsCutShort(t *testing.T) {
	r := newTextReader()
	seen := [2]int{}
	for _, c := range compileCases() {
		text := textOf(c.lines...)
		for at := range len(text) {
			seen[flag(textRuns(t, r, c.name, text[:at], c.reads))]++
			seen[flag(textRuns(t, r, c.name, text[at:], c.reads))]++
		}
		textNothing(t, c.name, text[:len(text)-1], 1000)
	}
	if seen[0] < 2000 || seen[1] < 20 {
		t.Error(seen)
	}
}

// compileAny are programs of all kinds: with a text, not well, and with a limit that is passed.
func compileAny() []compileCase {
	list := compileCases()
	for _, c := range plainAnyPrograms() {
		list = append(list, compileCase{name: c.name, f: c.f, reads: c.reads})
	}
	for _, c := range compileLess() {
		list = append(list, compileCase{name: c.name, f: c.f})
	}
	for room, tail := range compileTails() {
		f := checkSpoilt()
		tail(&f)
		list = append(list, compileCase{name: room, f: f})
	}
	return list
}

// Promise 21: neither a program, nor reads, nor the spare room behind them are written into, and none of it counts.
func TestCompileWritesIntoNothing(t *testing.T) {
	for _, c := range compileAny() {
		text, code := impl.Compile(c.f)
		steps, cost := impl.Ratio(c.f)
		f, reads := fnRoomy(c.f), homesRoomy(c.reads)
		before, beforeReads := fnCopy(fnWhole(f)), slices.Clone(reads[:cap(reads)])
		wantCompile(t, c.name+" with room", f, text, code)
		wantRatio(t, c.name+" with room", f, steps, cost)
		want := runCase{}
		want.told, want.how, want.end = impl.RunText(text, c.reads, 500)
		wantText(t, c.name+" with room", text, reads, 500, want)
		if !reflect.DeepEqual(fnWhole(f), before) || !slices.Equal(reads[:cap(reads)], beforeReads) {
			t.Errorf("%s: an argument was written into", c.name)
		}
	}
}

// Lists that share memory with each other in the argument are told apart, and are not written into.
func TestCompileSharedLists(t *testing.T) {
	arms := []impl.Arm{{From: 1, V: 0}, {From: 2, V: 0}}
	list := []impl.Ins{insOut(0), insOut(0), insOut(0), insOut(0), insOut(0)}
	f := progOf(4,
		blockOf(termBranch(0, 1, 2), insRead(0)),
		impl.Block{List: list[:2], Term: graphTo(3)},
		impl.Block{List: list[:3], Term: graphTo(3)},
		impl.Block{Phis: []impl.Phi{{D: 1, Arms: arms}, {D: 2, Arms: arms}}, List: list[1:4], Term: termBack(2)})
	wantRoom(t, "shared lists", f, "")
	compilePromise(t, "shared lists", f, []int{5})
	for i, x := range list {
		if x != insOut(0) {
			t.Errorf("place %d became %+v", i, x)
		}
	}
}

func TestCompileAnswersAreNew(t *testing.T) {
	for _, c := range compileCases() {
		text, reads := textOf(c.lines...), slices.Clone(c.reads)
		told, _, _ := impl.RunText(text, reads, 1000)
		again, _, _ := impl.RunText(text, reads, 1000)
		fnScribble(told)
		if !slices.Equal(again, c.told) || !slices.Equal(reads, c.reads) {
			t.Errorf("%s: an answer shares memory", c.name)
		}
		fnScribble(reads)
		if !slices.Equal(again, c.told) {
			t.Errorf("%s: an answer shares memory with an argument", c.name)
		}
		f := fnCopy(c.f)
		got, _ := impl.Compile(f)
		plainScribble(f)
		if got != text {
			t.Errorf("%s: the text hangs on what became of the program", c.name)
		}
		lookCompile(t, c)
	}
	nothing, _, _ := impl.RunText("", []int{1}, 5)
	fnScribble(nothing)
	textNothing(t, "none", "", 5)
}

// compileSome has programs of each code, and of each limit.
func compileSome() []compileCase {
	return []compileCase{
		{name: "a loop", f: checkLoop(), how: impl.CmDone},
		{name: "a loop in a loop", f: checkNest(), how: impl.CmDone},
		{name: "a circle", f: plainRing(11, 10), how: impl.CmDone},
		{name: "slots", f: homeClique(9), how: impl.CmDone},
		{name: "none", f: impl.Fn{}, how: impl.CmCheck},
		{name: "an end alone", f: progOf(1, blockOf(termBack(0))), how: impl.CmCheck},
		{name: "a block too many", f: edgeComb(1, 7, 1), how: impl.CmLimit},
		{name: "a place too many", f: plainFull(20, 5), how: impl.CmLimit},
	}
}

// What is answered hangs on the arguments alone, and not on which goroutine comes first.
func TestCompileSameEachTime(t *testing.T) {
	before := runtime.NumGoroutine()
	for _, c := range compileSome() {
		text, code, _ := compileModel(c.f)
		if code != c.how {
			t.Errorf("%s: the model tells %d", c.name, code)
		}
		for range 1000 {
			wantCompile(t, c.name, c.f, text, code)
		}
	}
	nobodyLeft(t, before)
	for _, over := range []impl.Fn{homeClique(impl.MaxHomes + 1), compileLong(901), compileLong(900)} {
		text, code, _ := compileModel(over)
		for range 30 {
			wantCompile(t, "a limit", over, text, code)
		}
	}
	nobodyLeft(t, before)
}

// nobodyLeft waits a while, as one that has nothing left to do may still be on its way out.
func nobodyLeft(t *testing.T, before int) {
	t.Helper()
	for range 2000 {
		if runtime.NumGoroutine() <= before {
			return
		}
		time.Sleep(time.Millisecond)
	}
	t.Errorf("there are %d goroutines, and were %d", runtime.NumGoroutine(), before)
}

// Many goroutines ask of the same programs at once; the race detector, where it is there, looks on.
func TestCompileFromManyAtOnce(t *testing.T) {
	before := runtime.NumGoroutine()
	some, cases := compileSome(), compileCases()
	texts := []string{}
	for _, c := range some {
		text, _, _ := compileModel(c.f)
		texts = append(texts, text)
	}
	var all sync.WaitGroup
	for range 32 {
		all.Add(1)
		go func() {
			defer all.Done()
			for range 20 {
				for i, c := range some {
					wantCompile(t, c.name, c.f, texts[i], c.how)
				}
			}
			lookCompiles(t, cases)
		}()
	}
	all.Wait()
	nobodyLeft(t, before)
}
