package tests

import (
	"math"
	"reflect"
	"slices"
	"testing"

	"loop.example/g00192/impl"
)

// A homeCase is a program that is plain, what is there to read for it, and what is guessed: nothing where a home would not be one.
type homeCase struct {
	name  string
	f     impl.Fn
	reads []int
	guess []int
	slots int
}

// A renameCase is a program that is plain, homes that are right, and what it is with these.
type renameCase struct {
	name  string
	f     impl.Fn
	homes []int
	want  impl.Fn
}

func homeOrdinary() []homeCase {
	return []homeCase{
		{"one block", oneBlock(3, 2, insRead(0), insRead(1), insAdd(2, 0, 1)), []int{4, 5}, []int{0, 1, 0}, 0},
		{"one block in which each is taken ahead of the next", oneBlock(3, 2, insRead(0), insOut(0), insRead(1), insAdd(2, 1, 1)), []int{4, 5}, []int{0, 0, 0}, 0},
		{"straight on", checkStraight(), []int{6}, []int{0, 1, 1, 0}, 0},
		{"a choice whose ways meet", plainBy(checkJoin(), [3]int{1, 3, 1}, [3]int{2, 3, 2}), []int{4}, []int{0, 1, 1, 1, 0, 0}, 0},
		{"a loop", homeLoop(), nil, []int{1, 0, 2, 1, 3, 2, 3, 0}, 0},
		{"a loop in a loop", plainBy(edgeNestSplit(), [3]int{0, 2, 0}, [3]int{3, 3, 4}, [3]int{4, 2, 6}, [3]int{6, 3, 2}), []int{3}, []int{0, 1, 2, 3, 3, 1, 2, 0, 0}, 0},
		{"a circle of two copies", plainBy(plainRing(11, 10), [3]int{0, 10, 0}, [3]int{0, 11, 1}, [3]int{2, 12, 10}, [3]int{2, 10, 11}, [3]int{2, 11, 12}), []int{1, 1, 0},
			[]int{0, 1, 0, 0, 0, 0, 0, 0, 0, 2, 0, 1, 2}, 0},
	}
}

// homeLoop is checkLoop lowered.
func homeLoop() impl.Fn {
	return plainBy(checkLoop(), [3]int{0, 3, 0}, [3]int{0, 4, 2}, [3]int{2, 3, 5}, [3]int{2, 4, 6})
}

// homePairs has these values, and just these pairs of them in each other's way: each pair in three places of its own.
func homePairs(values int, pairs ...[2]int) impl.Fn {
	f := fnOf(values, 1)
	for i, p := range pairs {
		if i > 0 && i%8 == 0 {
			f.Blocks = append(f.Blocks, blockOf(graphTo(0)))
			f.Blocks[i/8-1].Term = graphTo(i / 8)
		}
		addPlace(&f, i/8, insRead(p[0]))
		addPlace(&f, i/8, insRead(p[1]))
		addPlace(&f, i/8, insOut(p[0]))
	}
	last := len(f.Blocks) - 1
	f.Blocks[last].Term = graphTo(last)
	return f
}

// homeWho are the edges of who comes first, and of which home is the least.
func homeWho() []homeCase {
	return []homeCase{
		{"two alike: the lesser ahead", homePairs(2, [2]int{0, 1}), nil, []int{0, 1}, 0},
		{"two alike, told the other way round", homePairs(2, [2]int{1, 0}), nil, []int{0, 1}, 0},
		{"the one with most others ahead, though it is the greatest", homePairs(4, [2]int{0, 3}, [2]int{1, 3}, [2]int{2, 3}), nil, []int{1, 1, 1, 0}, 0},
		{"the one with most others ahead, though it is between", homePairs(3, [2]int{0, 1}, [2]int{1, 2}), nil, []int{1, 0, 1}, 0},
		{"fewest last", homePairs(4, [2]int{0, 2}, [2]int{2, 3}, [2]int{3, 1}), nil, []int{1, 0, 0, 1}, 0},
		{"one pair many times counts once", homePairs(3, [2]int{0, 1}, [2]int{0, 1}, [2]int{1, 0}, [2]int{1, 2}, [2]int{0, 2}), nil, []int{0, 1, 2}, 0},
		{"one pair many times brings nobody ahead", homePairs(4, [2]int{0, 1}, [2]int{0, 1}, [2]int{1, 0}, [2]int{2, 3}, [2]int{1, 3}), nil, []int{1, 0, 0, 1}, 0},
		{"a round of four", homePairs(4, [2]int{0, 1}, [2]int{1, 2}, [2]int{2, 3}, [2]int{3, 0}), nil, []int{0, 1, 0, 1}, 0},
		{"a round of five", homePairs(5, [2]int{0, 1}, [2]int{1, 2}, [2]int{2, 3}, [2]int{3, 4}, [2]int{4, 0}), nil, []int{0, 1, 0, 1, 2}, 0},
		{"each with each but one", homePairs(6, [2]int{0, 3}, [2]int{0, 5}, [2]int{2, 1}, [2]int{2, 5}, [2]int{4, 1}, [2]int{4, 3}), nil, []int{0, 0, 1, 1, 2, 2}, 0},
		{"the least home stands between two that are taken", homePairs(5, [2]int{0, 1}, [2]int{0, 2}, [2]int{1, 2}, [2]int{0, 3}, [2]int{2, 3}, [2]int{2, 4}), nil, []int{1, 2, 0, 2, 1}, 0},
		{"two apart from two others", homePairs(4, [2]int{0, 2}, [2]int{1, 3}), nil, []int{0, 0, 1, 1}, 0},
	}
}

// homeFew are the edges of how little a program may have.
func homeFew() []homeCase {
	return []homeCase{
		{"a program with no value", progOf(0, blockOf(graphTo(0))), nil, []int{}, 0},
		{"blocks without a value", progOf(0, blockOf(graphTo(1)), blockOf(graphTo(1))), nil, []int{}, 0},
		{"one value", oneBlock(1, 0, insRead(0)), []int{3}, []int{0}, 0},
		{"a block without a list", progOf(3, blockOf(termBack(2))), nil, []int{0, 0, 0}, 0},
		{"a value that nobody takes", oneBlock(3, 0, insRead(0), insRead(1), insConst(2, 5)), []int{7, 8}, []int{0, 1, 1}, 0},
		{"values that are never made nor taken", oneBlock(6, 4, insRead(1), insRead(4), insOut(1)), []int{7, 8}, []int{0, 0, 0, 0, 1, 0}, 0},
		{"needed, and never made", oneBlock(3, 0, insRead(0), insOut(2)), []int{7}, []int{0, 0, 1}, 0},
		{"two that are needed, and never made", oneBlock(3, 2, insOut(0), insOut(1)), nil, []int{0, 0, 0}, 0},
		{"what is copied and its copy, both needed", oneBlock(2, 0, insRead(0), insCopy(1, 0), insOut(1)), []int{7}, []int{0, 0}, 0},
		{"what is copied is made anew", oneBlock(2, 0, insRead(0), insCopy(1, 0), insAdd(0, 0, 0), insOut(1)), []int{7}, []int{0, 1}, 0},
		{"a copy to itself", oneBlock(2, 0, insRead(1), insCopy(1, 1), insOut(1), insConst(0, 1)), []int{7}, []int{0, 0}, 0},
		{"a copy to itself is a making", oneBlock(2, 0, insRead(0), insCopy(1, 1)), []int{7}, []int{0, 1}, 0},
		{"in each other's way where nobody comes", progOf(3, blockOf(termBack(0), insRead(0)), blockOf(termBack(1), insRead(1), insRead(2), insOut(2))), []int{7}, []int{0, 0, 1}, 0},
	}
}

// homeClique has so many values that are all in each other's way: all are read, and then all are told.
func homeClique(n int) impl.Fn {
	f := fnOf(n, 8)
	for b := range f.Blocks {
		f.Blocks[b].Term = graphTo(b + 1)
	}
	for v := range n {
		addPlace(&f, v/20, insRead(v))
		addPlace(&f, 4+v/20, insOut(v))
	}
	f.Blocks[7].Term = termBack(n - 1)
	return f
}

// homeBelow are the numbers from 0 up to below n.
func homeBelow(n int) []int {
	list := []int{}
	for v := range n {
		list = append(list, v)
	}
	return list
}

// homeUnlucky has so many values that are in the way of all, and four more in a row in each other's way, so that two homes more are
// enough; but the first and the last of these, which have two others beside, come ahead, and get one home.
func homeUnlucky(all int) impl.Fn {
	f := homeClique(all)
	a, b, c, d := all, all+1, all+2, all+3
	for _, p := range [][2]int{{a, b}, {b, c}, {c, d}} {
		addPlace(&f, 3, insRead(p[0]))
		addPlace(&f, 3, insRead(p[1]))
		addPlace(&f, 3, insOut(p[0]))
	}
	for i := range 2 {
		addPlace(&f, 7, insRead(a))
		addPlace(&f, 7, insRead(all+4+i))
		addPlace(&f, 7, insOut(a))
		addPlace(&f, 7, insRead(d))
		addPlace(&f, 7, insRead(all+4+i))
		addPlace(&f, 7, insOut(d))
	}
	f.Values = all + 6
	f.Blocks[7].Term = termBack(d)
	return f
}

// homeUnluckyLeast are homes of homeUnlucky that are right, and as few as can be.
func homeUnluckyLeast(all int) []int {
	return append(homeBelow(all), all+1, all, all+1, all, 0, 0)
}

// homeMany are the edges of registers, slots, and of no home left.
func homeMany() []homeCase {
	all := impl.MaxHomes
	unlucky := append(homeBelow(all-3), all-3, all-2, all-1, all-3, 0, 0)
	return []homeCase{
		{"just below Regs", homeClique(impl.Regs), []int{4, 5, 6, 7}, []int{0, 1, 2, 3}, 0},
		{"just from Regs on", homeClique(impl.Regs + 1), []int{4, 5, 6, 7, 8}, []int{0, 1, 2, 3, 4}, 1},
		{"two slots", homeClique(impl.Regs + 2), []int{4, 5, 6, 7, 8, 9}, []int{0, 1, 2, 3, 4, 5}, 2},
		{"all homes but one", homeClique(all - 1), []int{4, 5, 6}, homeBelow(all - 1), all - impl.Regs - 1},
		{"just all homes", homeClique(all), []int{4, 5, 6}, homeBelow(all), all - impl.Regs},
		{"one home too few", homeClique(all + 1), []int{4, 5, 6}, nil, 0},
		{"two homes too few", homeClique(all + 2), nil, nil, 0},
		{"half of the homes that it takes", homeClique(impl.MaxValues), nil, nil, 0},
		{"just all homes, as two come ahead that others should", homeUnlucky(all - 3), []int{4, 5, 6}, unlucky, all - impl.Regs},
		{"no home left, though there were enough", homeUnlucky(all - 2), []int{4, 5, 6}, nil, 0},
		{"no home left where nobody comes", homeDead(all + 1), nil, nil, 0},
		{"just all homes where nobody comes", homeDead(all), nil, homeBelow(all), all - impl.Regs},
	}
}

// homeDead has all its values in blocks that are not reached.
func homeDead(n int) impl.Fn {
	f := homeClique(n)
	f.Blocks = append([]impl.Block{blockOf(graphTo(0))}, f.Blocks...)
	for b := range f.Blocks[1:] {
		if t := &f.Blocks[1+b].Term; t.Kind == impl.TmJump {
			t.To++
		}
	}
	return f
}

func homeCases() []homeCase {
	return slices.Concat(homeOrdinary(), homeWho(), homeFew(), homeMany())
}

func wantGuess(t *testing.T, name string, f impl.Fn, want []int) {
	t.Helper()
	if got := impl.Guess(f); !slices.Equal(got, want) {
		t.Errorf("%s: Guess is %v, not %v: %+v", name, got, want, f)
	}
}

func wantHomesOk(t *testing.T, name string, f impl.Fn, homes []int, want bool) {
	t.Helper()
	if got := impl.HomesOk(f, homes); got != want {
		t.Errorf("%s: HomesOk of %v is %t: %+v", name, homes, got, f)
	}
}

func wantRenamed(t *testing.T, name string, f impl.Fn, homes []int, want impl.Fn, wantOk bool) {
	t.Helper()
	got, ok := impl.Renamed(f, homes)
	if ok != wantOk || !fnSame(got, want) {
		t.Errorf("%s: Renamed with %v is %t and\n%+v, not %t and\n%+v", name, homes, ok, got, wantOk, want)
	}
}

func wantSlots(t *testing.T, name string, homes []int, want int) {
	t.Helper()
	if got := impl.SlotsOf(homes); got != want {
		t.Errorf("%s: SlotsOf %v is %d, not %d", name, homes, got, want)
	}
}

// homesRefused is what is answered of homes that are not right.
func homesRefused(t *testing.T, name string, f impl.Fn, homes []int) {
	t.Helper()
	wantHomesOk(t, name, f, homes, false)
	wantRenamed(t, name, f, homes, impl.Fn{}, false)
}

func lookHome(t *testing.T, c homeCase) {
	t.Helper()
	wantPlain(t, c.name, c.f, true)
	wantGuess(t, c.name, c.f, c.guess)
	wantSlots(t, c.name, c.guess, c.slots)
	if c.guess == nil {
		homesRefused(t, c.name, c.f, impl.Guess(c.f))
		return
	}
	wantHomesOk(t, c.name, c.f, c.guess, true)
	wantRenamed(t, c.name, c.f, c.guess, renameModel(c.f, c.guess), true)
}

func lookHomes(t *testing.T, cases []homeCase) {
	t.Helper()
	for _, c := range cases {
		lookHome(t, c)
	}
}

func TestHomeNumbers(t *testing.T) {
	if impl.Regs != 4 || impl.MaxHomes != 40 {
		t.Error(impl.Regs, impl.MaxHomes)
	}
}

func TestHomeOrdinary(t *testing.T) { lookHomes(t, homeOrdinary()) }

func TestHomeWho(t *testing.T) { lookHomes(t, homeWho()) }

func TestHomeFew(t *testing.T) { lookHomes(t, homeFew()) }

func TestHomeMany(t *testing.T) { lookHomes(t, homeMany()) }

// homePairs has just the pairs that it is told: else the cases that are made of it would ask for something else.
func TestHomePairs(t *testing.T) {
	for _, pairs := range [][][2]int{nil, {{0, 1}}, {{1, 0}, {2, 3}}, {{0, 1}, {1, 2}, {2, 3}, {3, 4}, {4, 0}, {1, 3}, {0, 2}, {2, 4}, {4, 1}, {0, 3}}} {
		f := homePairs(5, pairs...)
		wantPlain(t, "pairs", f, true)
		wantClashes(t, "pairs", f, clashRows(5, pairs))
	}
}

func renameOrdinary() []renameCase {
	return []renameCase{
		{"one block", oneBlock(3, 2, insRead(0), insRead(1), insAdd(2, 0, 1)), []int{7, 39, 7},
			oneBlock(40, 7, insRead(7), insRead(39), insAdd(7, 7, 39))},
		{"a choice whose ways meet", plainBy(checkJoin(), [3]int{1, 3, 1}, [3]int{2, 3, 2}), []int{0, 1, 2, 1, 0, 3},
			progOf(40,
				blockOf(termBranch(0, 1, 2), insRead(0)),
				blockOf(graphTo(3), insConst(1, 1)),
				blockOf(graphTo(3), insConst(2, 2), insOut(2), insCopy(1, 2)),
				blockOf(termBack(0), insAdd(0, 1, 0)))},
		{"a loop, as it is guessed", homeLoop(), []int{1, 0, 2, 1, 3, 2, 3, 0},
			progOf(40,
				blockOf(graphTo(1), insConst(1, 3), insConst(0, 1), insConst(2, 0), insCopy(3, 2)),
				blockOf(termBranch(1, 2, 3)),
				blockOf(graphTo(1), insOut(1), insOp(impl.OpSub, 2, 1, 0), insAdd(3, 3, 1), insCopy(1, 2)),
				blockOf(termBack(3)))},
		{"a loop, each a home of its own", homeLoop(), []int{39, 38, 37, 36, 35, 34, 33, 32},
			progOf(40,
				blockOf(graphTo(1), insConst(39, 3), insConst(38, 1), insConst(37, 0), insCopy(36, 39), insCopy(35, 37)),
				blockOf(termBranch(36, 2, 3)),
				blockOf(graphTo(1), insOut(36), insOp(impl.OpSub, 34, 36, 38), insAdd(33, 35, 36), insCopy(36, 34), insCopy(35, 33)),
				blockOf(termBack(35)))},
		{"every kind of place: what is not named stays zero", homeKinds(), []int{4, 5, 6, 7},
			progOf(40,
				blockOf(graphTo(1), insConst(5, 2), insLoad(6, 5), insStore(5, 6), insOut(6), insRead(7), insCopy(4, 7), insOp(impl.OpLess, 5, 6, 7)),
				blockOf(termBranch(5, 2, 1)),
				blockOf(termBack(6)))},
		{"a number of a const is no value", oneBlock(2, 1, insConst(0, 1), insConst(1, 0)), []int{9, 9},
			oneBlock(40, 9, insConst(9, 1), insConst(9, 0))},
		{"a program with no value", progOf(0, blockOf(graphTo(0))), nil, progOf(40, blockOf(graphTo(0)))},
		{"a block that is not reached", progOf(2, blockOf(termBack(0), insRead(0)), blockOf(graphTo(1), insRead(1), insOut(1))), []int{3, 8},
			progOf(40, blockOf(termBack(3), insRead(3)), blockOf(graphTo(1), insRead(8), insOut(8)))},
	}
}

// homeKinds has every kind of place but the other nine ops, and every kind of end.
func homeKinds() impl.Fn {
	return progOf(4,
		blockOf(graphTo(1), insConst(1, 2), insLoad(2, 1), insStore(1, 2), insOut(2), insRead(3), insCopy(0, 3), insOp(impl.OpLess, 1, 2, 3)),
		blockOf(termBranch(1, 2, 1)),
		blockOf(termBack(2)))
}

// renameCopies are the edges of copies of a home to itself.
func renameCopies() []renameCase {
	read, out := insRead(0), insOut(1)
	gone, stays := insCopy(1, 0), insCopy(2, 0)
	full := slices.Repeat([]impl.Ins{insCopy(1, 0), insCopy(0, 1)}, impl.MaxList/2)
	return []renameCase{
		{"alone in its list", progOf(2, blockOf(graphTo(1), read), blockOf(termBack(1), gone)), []int{5, 5},
			progOf(40, blockOf(graphTo(1), insRead(5)), blockOf(termBack(5)))},
		{"first", progOf(2, blockOf(graphTo(1), read), blockOf(termBack(1), gone, out, insOut(0))), []int{5, 5},
			progOf(40, blockOf(graphTo(1), insRead(5)), blockOf(termBack(5), insOut(5), insOut(5)))},
		{"last", oneBlock(2, 1, read, insOut(0), gone), []int{5, 5}, oneBlock(40, 5, insRead(5), insOut(5))},
		{"between", oneBlock(2, 1, read, gone, out), []int{5, 5}, oneBlock(40, 5, insRead(5), insOut(5))},
		{"several in a row", oneBlock(4, 3, read, insCopy(1, 0), insCopy(2, 1), insCopy(3, 2), insCopy(0, 3), insOut(0)), []int{39, 39, 39, 39},
			oneBlock(40, 39, insRead(39), insOut(39))},
		{"several in a row, alone in their list", progOf(3, blockOf(graphTo(1), read), blockOf(graphTo(2), insCopy(1, 0), insCopy(2, 1), insCopy(0, 2)), blockOf(termBack(0))), []int{4, 4, 4},
			progOf(40, blockOf(graphTo(1), insRead(4)), blockOf(graphTo(2)), blockOf(termBack(4)))},
		{"several, with others between", oneBlock(2, 0, read, insCopy(1, 0), insOut(1), insCopy(0, 1), insOut(0), insCopy(1, 0), insAdd(0, 1, 1), insCopy(1, 0)), []int{2, 2},
			oneBlock(40, 2, insRead(2), insOut(2), insOut(2), insAdd(2, 2, 2))},
		{"a list that is full of them", progOf(2, blockOf(graphTo(1), read), blockOf(termBack(1), full...)), []int{0, 0},
			progOf(40, blockOf(graphTo(1), insRead(0)), blockOf(termBack(0)))},
		{"a copy of a value to itself, whatever its home", oneBlock(2, 0, insRead(1), insCopy(1, 1), insOut(1), insConst(0, 1), insCopy(0, 0)), []int{7, 8},
			oneBlock(40, 7, insRead(8), insOut(8), insConst(7, 1))},
		{"one of two copies", oneBlock(3, 0, read, gone, stays, out, insOut(2)), []int{6, 6, 5},
			oneBlock(40, 6, insRead(6), insCopy(5, 6), insOut(6), insOut(5))},
		{"the other one of two copies", oneBlock(3, 0, read, gone, stays, out, insOut(2)), []int{6, 5, 6},
			oneBlock(40, 6, insRead(6), insCopy(5, 6), insOut(5), insOut(6))},
		{"none of two copies", oneBlock(3, 0, read, gone, stays, out, insOut(2)), []int{0, 39, 1},
			oneBlock(40, 0, insRead(0), insCopy(39, 0), insCopy(1, 0), insOut(39), insOut(1))},
		{"a circle stays", oneBlock(3, 0, read, insRead(1), insCopy(2, 0), insCopy(0, 1), insCopy(1, 2), insOut(1)), []int{1, 0, 2},
			oneBlock(40, 1, insRead(1), insRead(0), insCopy(2, 1), insCopy(1, 0), insCopy(0, 2), insOut(0))},
		{"no copy, though it does as little", oneBlock(2, 1, read, insOp(impl.OpAnd, 1, 0, 0), insOp(impl.OpOr, 1, 1, 1)), []int{3, 3},
			oneBlock(40, 3, insRead(3), insOp(impl.OpAnd, 3, 3, 3), insOp(impl.OpOr, 3, 3, 3))},
		{"a load by the home that it makes stays", oneBlock(2, 1, read, insLoad(1, 0), insStore(1, 1)), []int{3, 3},
			oneBlock(40, 3, insRead(3), insLoad(3, 3), insStore(3, 3))},
		{"what makes nothing is no copy to home 0", oneBlock(1, 0, insOut(0), insStore(0, 0), insConst(0, 0), insRead(0)), []int{0},
			oneBlock(40, 0, insOut(0), insStore(0, 0), insConst(0, 0), insRead(0))},
		{"in a block that is not reached", progOf(2, blockOf(termBack(0), read), blockOf(termBack(1), gone)), []int{5, 5},
			progOf(40, blockOf(termBack(5), insRead(5)), blockOf(termBack(5)))},
	}
}

func renameCases() []renameCase { return slices.Concat(renameOrdinary(), renameCopies()) }

func lookRename(t *testing.T, c renameCase) {
	t.Helper()
	wantPlain(t, c.name, c.f, true)
	wantHomesOk(t, c.name, c.f, c.homes, true)
	wantRenamed(t, c.name, c.f, c.homes, c.want, true)
}

func TestHomeRenamedOrdinary(t *testing.T) {
	for _, c := range renameOrdinary() {
		lookRename(t, c)
	}
}

func TestHomeRenamedCopies(t *testing.T) {
	for _, c := range renameCopies() {
		lookRename(t, c)
	}
}

// guessModel goes by the words: of those that have no home the first of those with most others, and the least home that is free.
func guessModel(f impl.Fn) []int {
	rows, homes := clashModel(f), map[int]int{}
	for len(homes) < f.Values {
		next := -1
		for v := range f.Values {
			if _, has := homes[v]; !has && (next < 0 || clashCount(rows[v]) > clashCount(rows[next])) {
				next = v
			}
		}
		taken := map[int]bool{}
		for v, h := range homes {
			taken[h] = taken[h] || rows[next][v]
		}
		home := 0
		for taken[home] {
			home++
		}
		if home >= 40 {
			return nil
		}
		homes[next] = home
	}
	list := make([]int, f.Values)
	for v := range list {
		list[v] = homes[v]
	}
	return list
}

// homesModel goes by the words, for a program that is plain.
func homesModel(rows [][]bool, homes []int) bool {
	ok := len(homes) == len(rows)
	for a, h := range homes {
		ok = ok && h >= 0 && h < 40
		for b := range a {
			ok = ok && (h != homes[b] || !rows[a][b])
		}
	}
	return ok
}

// renameModel goes by what each kind of place and of end names.
func renameModel(f impl.Fn, homes []int) impl.Fn {
	at := func(named bool, v int) int {
		if named {
			return homes[v]
		}
		return 0
	}
	g := impl.Fn{Values: 40, Blocks: make([]impl.Block, len(f.Blocks))}
	for b, block := range f.Blocks {
		for _, x := range block.List {
			k := placeKinds[slices.IndexFunc(placeKinds, func(k placeKind) bool { return k.num == x.Op })]
			y := impl.Ins{Op: x.Op, D: at(k.d, x.D), A: at(k.a, x.A), B: at(k.b, x.B), N: x.N}
			if y.Op != impl.InCopy || y.D != y.A {
				addPlace(&g, b, y)
			}
		}
		end := block.Term
		end.A = at(end.Kind != impl.TmJump, end.A)
		g.Blocks[b].Term = end
	}
	return g
}

func TestHomeModelOfCases(t *testing.T) {
	for _, c := range homeCases() {
		if got := guessModel(c.f); !slices.Equal(got, c.guess) {
			t.Errorf("%s: the model tells %v, not %v", c.name, got, c.guess)
		}
	}
	for _, c := range renameCases() {
		wantFn(t, c.name+": the model", renameModel(c.f, c.homes), c.want)
		if !homesModel(clashModel(c.f), c.homes) {
			t.Errorf("%s: the model tells false", c.name)
		}
	}
}

// homeTells is the first half of promise 13 of homes that are right: renamed a program tells the same, and comes to the same end by
// the same way; of fuel it takes one less for each copy that is left out.
func homeTells(t *testing.T, name string, f impl.Fn, homes []int, reads []int) {
	t.Helper()
	r, ok := impl.Renamed(f, homes)
	if !ok || r.Values != impl.MaxHomes || len(r.Blocks) != len(f.Blocks) {
		t.Fatalf("%s: Renamed with %v is %t and %+v: %+v", name, homes, ok, r, f)
	}
	wantPlain(t, name+": renamed", r, true)
	for _, block := range r.Blocks {
		if slices.ContainsFunc(block.List, func(x impl.Ins) bool { return x.Op == impl.InCopy && x.D == x.A }) {
			t.Errorf("%s: a copy to itself is left: %+v", name, r)
		}
	}
	m := runModel(f, reads, 250)
	told, how, end := impl.Run(r, reads, 250)
	path := impl.Path(r, reads, 250)
	if m.how == impl.RnFuel {
		if !isBeginning(m.told, told) || !isBeginning(m.path, path) {
			t.Errorf("%s, homes %v, reads %v: %v does not begin %v: %+v", name, homes, reads, m.told, told, f)
		}
		return
	}
	if !slices.Equal(m.told, told) || m.how != how || m.end != end || !slices.Equal(m.path, path) {
		t.Errorf("%s, homes %v, reads %v: Run is %v, %d, %d, not %v, %d, %d: %+v", name, homes, reads, told, how, end, m.told, m.how, m.end, f)
	}
	if how != impl.RnDone {
		return
	}
	need := m.need
	for _, b := range m.path {
		need -= len(f.Blocks[b].List) - len(r.Blocks[b].List)
	}
	if got := runModel(r, reads, 250).need; got != need {
		t.Errorf("%s, homes %v, reads %v: it needs %d of fuel, not %d: %+v", name, homes, reads, got, need, f)
	}
}

// homeDrawn draws homes below n that are right: nothing where there is none left for a value.
func homeDrawn(d *drawer, rows [][]bool, n int) []int {
	homes := make([]int, len(rows))
	first := d.draw(len(rows) + 1)
	for i := range homes {
		v := (first + i) % len(homes)
		free := []int{}
		for h := range n {
			taken := false
			for j := range i {
				other := (first + j) % len(homes)
				taken = taken || rows[v][other] && homes[other] == h
			}
			if !taken {
				free = append(free, h)
			}
		}
		if len(free) == 0 {
			return nil
		}
		homes[v] = free[d.draw(len(free))]
	}
	return homes
}

// homeRights are homes of all sorts that are right.
func homeRights(d *drawer, f impl.Fn) [][]int {
	list := [][]int{}
	if guessed := impl.Guess(f); len(guessed) == f.Values {
		list = append(list, guessed)
	}
	if own := homeBelow(f.Values); len(own) <= impl.MaxHomes {
		list = append(list, slices.Clone(own))
		slices.Reverse(own)
		list = append(list, own)
	}
	rows := impl.Clashes(f)
	for _, n := range []int{impl.MaxHomes, 3 + d.draw(9)} {
		if drawn := homeDrawn(d, rows, n); drawn != nil {
			list = append(list, drawn)
		}
	}
	return list
}

// homePromise is promise 13 of one plain program; it tells whether anything was guessed.
func homePromise(t *testing.T, d *drawer, name string, f impl.Fn, reads []int) bool {
	t.Helper()
	guessed := impl.Guess(f)
	some := len(guessed) > 0
	if some || f.Values == 0 {
		wantHomesOk(t, name+": guessed", f, guessed, true)
	}
	for _, homes := range homeRights(d, f) {
		wantHomesOk(t, name+": right", f, homes, true)
		homeTells(t, name, f, homes, reads)
	}
	return some
}

// Promise 13: homes that are right leave what a program tells; what is guessed is right, or nothing.
func TestHomePromise(t *testing.T) {
	d := &drawer{x: 13}
	for _, c := range homeCases() {
		for _, reads := range [][]int{c.reads, nil, {1, 1, 1}, {2, -1, 0, 4}, {7, 3, 5, 1}} {
			if got := homePromise(t, d, c.name, c.f, reads); got != (len(c.guess) > 0) {
				t.Errorf("%s: whether it is guessed is %t", c.name, got)
			}
		}
	}
	for _, c := range renameCases() {
		for _, reads := range [][]int{nil, {3}, {1, 1, 1}, {2, -1, 0, 4}} {
			homeTells(t, c.name, c.f, c.homes, reads)
			homePromise(t, d, c.name, c.f, reads)
		}
	}
	for _, c := range clashCases() {
		homePromise(t, d, c.name, c.f, []int{3, 1, 2})
		wantGuess(t, c.name, c.f, guessModel(c.f))
	}
	for _, c := range liveCases() {
		homePromise(t, d, c.name, c.f, []int{3, 1, 2})
		wantGuess(t, c.name, c.f, guessModel(c.f))
	}
}

// With any fuel: where the program comes to its end, or to a cell that is none, the renamed one does; else it has told no less.
func TestHomePromiseFuelByFuel(t *testing.T) {
	for _, c := range slices.Concat(homeOrdinary(), homeFew()) {
		r, _ := impl.Renamed(c.f, c.guess)
		tellsNoLess(t, c.name, c.f, r, c.reads)
	}
	for _, c := range renameCases() {
		tellsNoLess(t, c.name, c.f, c.want, []int{3, 1, 2})
	}
}

// What the program itself lowers, as it came and made smaller: renamed it tells what it told ahead of all.
func TestHomeLowered(t *testing.T) {
	d := &drawer{x: 113}
	for _, c := range plainCases() {
		for _, reads := range [][]int{c.reads, {1, 1, 1}} {
			homePromise(t, d, c.name, c.plain, reads)
		}
		wantGuess(t, c.name, c.plain, guessModel(c.plain))
	}
	for _, c := range edgeCases() {
		for _, f := range []impl.Fn{c.f, impl.Prune(impl.Fold(c.f))} {
			g, _ := impl.Split(f)
			p, ok := impl.Lower(g)
			if !ok {
				t.Fatalf("%s: Lower is false", c.name)
			}
			homePromise(t, d, c.name, p, c.reads)
			lookHome(t, homeCase{c.name, p, c.reads, guessModel(p), impl.SlotsOf(guessModel(p))})
			r, _ := impl.Renamed(p, impl.Guess(p))
			told, how, end := impl.Run(f, c.reads, 250)
			toldR, howR, endR := impl.Run(r, c.reads, impl.MaxFuel)
			if how != impl.RnFuel && (!slices.Equal(told, toldR) || how != howR || end != endR) {
				t.Errorf("%s: Run is %v, %d, %d, not %v, %d, %d", c.name, toldR, howR, endR, told, how, end)
			}
		}
	}
}

func TestHomeDrawnLowered(t *testing.T) {
	d := &drawer{x: 1313}
	seen, slots, gone := 0, 0, 0
	var ends [3]int
	wellDrawn(13, 40, func(f impl.Fn) {
		g, _ := impl.Split(f)
		p, ok := impl.Lower(g)
		if !ok {
			return
		}
		seen++
		reads := runReads(d)
		homePromise(t, d, "drawn", p, reads)
		guessed := guessModel(p)
		lookHome(t, homeCase{"drawn", p, reads, guessed, impl.SlotsOf(guessed)})
		r, _ := impl.Renamed(p, guessed)
		_, how, _ := impl.Run(r, reads, 250)
		ends[how]++
		slots += flag(impl.SlotsOf(guessed) > 0)
		gone += impl.Cost(p) - impl.Cost(r)
	})
	if seen < 200 || slots < 50 || gone < 300 || slices.Min(ends[:]) < 20 {
		t.Error(seen, slots, gone, ends)
	}
}

func TestHomeDrawnPlain(t *testing.T) {
	d := &drawer{x: 131}
	right, wrong := 0, 0
	for range 600 {
		f := liveAnyOf(d, 1+d.draw(8), 1+d.draw(9), d.draw(7))
		homePromise(t, d, "drawn", f, runReads(d))
		wantGuess(t, "drawn", f, guessModel(f))
		rows := clashModel(f)
		for range 6 {
			homes := make([]int, f.Values)
			for v := range homes {
				homes[v] = d.draw(2 + f.Values/2)
			}
			if !homesModel(rows, homes) {
				wrong++
				homesRefused(t, "drawn", f, homes)
				continue
			}
			right++
			wantHomesOk(t, "drawn", f, homes, true)
			wantRenamed(t, "drawn", f, homes, renameModel(f, homes), true)
		}
	}
	if right < 300 || wrong < 300 {
		t.Error(right, wrong)
	}
}

// What is refused has a reason: with two that clash in one home, and each other value in one of its own, some programs tell otherwise.
func TestHomeRefusedForAReason(t *testing.T) {
	d := &drawer{x: 1331}
	refused, otherwise := 0, 0
	for range 400 {
		f := liveAnyOf(d, 1+d.draw(5), 2+d.draw(5), 5)
		reads := runReads(d)
		told, how, end := impl.Run(f, reads, 300)
		for a := range f.Values {
			for b := range a {
				homes := homeBelow(f.Values)
				homes[a] = b
				if !impl.Clash(f, a, b) {
					wantHomesOk(t, "one home", f, homes, true)
					homeTells(t, "one home", f, homes, reads)
					continue
				}
				refused++
				homesRefused(t, "one home", f, homes)
				toldG, howG, endG := impl.Run(renameModel(f, homes), reads, 300)
				otherwise += flag(!slices.Equal(told, toldG) || how != howG || end != endG)
			}
		}
	}
	if refused < 500 || otherwise < 100 {
		t.Error(refused, otherwise)
	}
}

// All ways in which up to five values can be in each other's way.
func TestHomeAllPairs(t *testing.T) {
	for n := range 6 {
		pairs := [][2]int{}
		for a := range n {
			for b := range a {
				pairs = append(pairs, [2]int{a, b})
			}
		}
		for bits := range 1 << len(pairs) {
			some := [][2]int{}
			for i, p := range pairs {
				if bits>>i&1 == 1 {
					some = append(some, p)
				}
			}
			f := homePairs(n, some...)
			guessed := guessModel(f)
			wantGuess(t, "pairs", f, guessed)
			wantHomesOk(t, "pairs", f, guessed, true)
		}
	}
}

// All homes below three of four values, for all ways in which these can be in each other's way.
func TestHomeAllHomesOfAllPairs(t *testing.T) {
	pairs := [][2]int{{0, 1}, {0, 2}, {0, 3}, {1, 2}, {1, 3}, {2, 3}}
	for bits := range 1 << len(pairs) {
		some := [][2]int{}
		for i, p := range pairs {
			if bits>>i&1 == 1 {
				some = append(some, p)
			}
		}
		f, rows := homePairs(4, some...), clashRows(4, some)
		for choice := range 81 {
			homes := []int{choice % 3, choice / 3 % 3, choice / 9 % 3, choice / 27}
			wantHomesOk(t, "pairs", f, homes, homesModel(rows, homes))
		}
	}
}

// All programs of one block with up to three places that read, tell, copy or add two values, and of two blocks with three.
func TestHomeAllSmallPrograms(t *testing.T) {
	reads := []int{5, 7, 9}
	look := func(f impl.Fn) {
		rows := clashModel(f)
		wantGuess(t, "small", f, guessModel(f))
		for _, homes := range [][]int{{0, 0, 0}, {0, 1, 1}, {1, 0, 1}, {1, 1, 0}, {39, 4, 3}} {
			homes = homes[:f.Values]
			if !homesModel(rows, homes) {
				homesRefused(t, "small", f, homes)
				continue
			}
			wantHomesOk(t, "small", f, homes, true)
			wantRenamed(t, "small", f, homes, renameModel(f, homes), true)
			homeTells(t, "small", f, homes, reads)
		}
	}
	places := clashPlaces(2)
	for _, x := range places {
		for _, y := range places {
			for _, z := range places {
				look(oneBlock(2, 0, x, y, z))
			}
		}
	}
	places = clashPlaces(3)
	for _, x := range places {
		for _, y := range places {
			look(progOf(3, blockOf(termBranch(0, 0, 1), x), blockOf(termBack(1), y)))
		}
	}
}

// Homes that are right though nothing is guessed: these are taken, too.
func TestHomeRightThoughNotGuessed(t *testing.T) {
	for _, all := range []int{impl.MaxHomes - 3, impl.MaxHomes - 2} {
		f, homes := homeUnlucky(all), homeUnluckyLeast(all)
		wantPlain(t, "unlucky", f, true)
		wantHomesOk(t, "unlucky", f, homes, true)
		wantRenamed(t, "unlucky", f, homes, renameModel(f, homes), true)
		homeTells(t, "unlucky", f, homes, []int{5, 6, 7})
		wantSlots(t, "unlucky", homes, all+2-impl.Regs)
	}
	f, homes := homeUnlucky(impl.MaxHomes-1), homeUnluckyLeast(impl.MaxHomes-1)
	homesRefused(t, "one home too few", f, homes)
	wantGuess(t, "one home too few", f, nil)
}

// Of more values that clash than there are homes no homes are right.
func TestHomeNoneLeft(t *testing.T) {
	for _, n := range []int{impl.MaxHomes + 1, impl.MaxValues} {
		f := homeClique(n)
		homes := homeBelow(n)
		homesRefused(t, "beyond", f, homes)
		for v := range homes {
			homes[v] %= impl.MaxHomes
		}
		homesRefused(t, "twice", f, homes)
		wantGuess(t, "none left", f, nil)
	}
}

// The homes next to those that are: -1, MaxHomes - 1 and MaxHomes, at each value, also at one that nobody makes or takes.
func TestHomeWhatIsNoHome(t *testing.T) {
	for _, c := range homeCases() {
		if len(c.guess) == 0 {
			continue
		}
		for v := range c.guess {
			for _, far := range []int{-1, -2, -40, impl.MaxHomes, impl.MaxHomes + 1, 80, 1 << 32, 1<<32 + 1, math.MaxInt, math.MinInt} {
				homes := slices.Clone(c.guess)
				homes[v] = far
				homesRefused(t, c.name, c.f, homes)
				wantSlots(t, c.name, homes, 0)
			}
		}
	}
	for _, last := range []int{impl.MaxHomes - 1, impl.Regs - 1, impl.Regs} {
		f := oneBlock(2, 0, insRead(0), insRead(1), insOut(1))
		lookRename(t, renameCase{"an edge", f, []int{last, 0}, oneBlock(40, last, insRead(last), insRead(0), insOut(0))})
		homesRefused(t, "an edge, both", f, []int{last, last})
	}
}

func TestHomeTooFewOrTooMany(t *testing.T) {
	for _, c := range homeCases() {
		if c.guess == nil {
			continue
		}
		n := len(c.guess)
		homesRefused(t, c.name+": one too many", c.f, append(slices.Clone(c.guess), 0))
		homesRefused(t, c.name+": one too many that is no home", c.f, append(slices.Clone(c.guess), -1))
		homesRefused(t, c.name+": far too many", c.f, slices.Repeat([]int{1}, 1000))
		if n > 0 {
			homesRefused(t, c.name+": one too few", c.f, c.guess[:n-1])
			homesRefused(t, c.name+": the first is missing", c.f, c.guess[1:])
			homesRefused(t, c.name+": none", c.f, nil)
			homesRefused(t, c.name+": none", c.f, []int{})
		}
	}
	none := progOf(0, blockOf(graphTo(0)))
	wantHomesOk(t, "no value and no home", none, nil, true)
	wantHomesOk(t, "no value and no home", none, []int{}, true)
	wantRenamed(t, "no value and no home", none, []int{}, progOf(40, blockOf(graphTo(0))), true)
}

// Two values that clash have one home: of any two that do, and in no other way wrong.
func TestHomeTwoThatClash(t *testing.T) {
	bad, good := 0, 0
	for _, c := range clashCases() {
		for a := range c.f.Values {
			for b := range a {
				homes := homeBelow(c.f.Values)
				homes[a] = homes[b]
				if clashRows(c.f.Values, c.pairs)[a][b] {
					bad++
					homesRefused(t, c.name, c.f, homes)
					continue
				}
				good++
				wantHomesOk(t, c.name, c.f, homes, true)
				wantRenamed(t, c.name, c.f, homes, renameModel(c.f, homes), true)
			}
		}
	}
	if bad < 50 || good < 50 {
		t.Error(bad, good)
	}
}

func TestHomeSlots(t *testing.T) {
	for _, c := range []struct {
		name  string
		homes []int
		want  int
	}{
		{"no homes", nil, 0},
		{"no homes", []int{}, 0},
		{"one register", []int{0}, 0},
		{"registers alone", []int{3, 0, 1, 2, 3}, 0},
		{"the first slot", []int{4}, 1},
		{"the second slot alone", []int{5}, 2},
		{"slots", []int{4, 5, 6}, 3},
		{"the greatest first", []int{9, 4, 0}, 6},
		{"the greatest between", []int{0, 6, 4}, 3},
		{"the greatest last", []int{0, 1, 7}, 4},
		{"the last slot", []int{39}, 36},
		{"the last slot and registers", []int{3, 39, 0}, 36},
		{"one behind the last", []int{40}, 0},
		{"no home behind slots", []int{4, 9, 40}, 0},
		{"no home ahead of slots", []int{40, 4, 9}, 0},
		{"no home between slots", []int{4, -1, 9}, 0},
		{"below all, ahead of slots", []int{-1, 4}, 0},
		{"below all, behind slots", []int{4, -1}, 0},
		{"below all alone", []int{-1}, 0},
		{"far away", []int{5, math.MaxInt}, 0},
		{"far away", []int{math.MinInt, 5}, 0},
		{"more than there may be values", slices.Repeat([]int{0, 8}, 500), 5},
	} {
		wantSlots(t, c.name, c.homes, c.want)
	}
	for h := -3; h < 45; h++ {
		wantSlots(t, "each home", []int{0, h, 3}, only(h >= 4 && h < 40, h-3))
	}
}

// homeFull has MaxBlocks blocks of MaxList places, and MaxValues values: two times MaxHomes that are all in each other's way.
func homeFull() impl.Fn {
	f := fnOf(impl.MaxValues, impl.MaxBlocks)
	for v := range impl.MaxValues {
		half, at := v/impl.MaxHomes, v%impl.MaxHomes
		addPlace(&f, 8*half+at/20, insRead(v))
		addPlace(&f, 8*half+6+at/20, insOut(v))
	}
	for b := range f.Blocks {
		f.Blocks[b].Term = graphTo(min(b+1, 15))
		for len(f.Blocks[b].List) < impl.MaxList {
			addPlace(&f, b, insOut(b/8*impl.MaxHomes))
		}
	}
	f.Blocks[15].Term = termBack(79)
	return f
}

// Limits: MaxBlocks blocks of MaxList places with MaxValues values, and all homes are taken.
func TestHomeLimits(t *testing.T) {
	f := homeFull()
	homes := append(homeBelow(impl.MaxHomes), homeBelow(impl.MaxHomes)...)
	lookHome(t, homeCase{"all that there may be", f, nil, homes, impl.MaxHomes - impl.Regs})
	reads := []int{}
	for v := range impl.MaxValues {
		reads = append(reads, 1000+v)
	}
	r, _ := impl.Renamed(f, homes)
	tellsSame(t, "all that there may be", f, r, reads)
	for name, spoil := range map[string]func(f *impl.Fn){
		"a value too many": func(f *impl.Fn) { f.Values++ },
		"a block too many": func(f *impl.Fn) { f.Blocks = append(f.Blocks, blockOf(graphTo(0))) },
		"a place too many": func(f *impl.Fn) { addPlace(f, 7, insOut(0)) },
	} {
		g := fnCopy(f)
		spoil(&g)
		homeNothing(t, name, g)
		homesRefused(t, name, g, homes)
	}
	lookHome(t, homeCase{"a list that is just full", oneFull(), nil, make([]int, impl.MaxList), 0})
}

// oneFull has one list that is just full, and whose values are in nobody's way.
func oneFull() impl.Fn {
	f := oneBlock(impl.MaxList, impl.MaxList-1)
	for v := range impl.MaxList {
		addPlace(&f, 0, insRead(v))
	}
	return f
}

// homeNothing is what is told of a program that is not plain, whatever the homes are.
func homeNothing(t *testing.T, name string, f impl.Fn) {
	t.Helper()
	wantPlain(t, name, f, false)
	wantGuess(t, name, f, nil)
	n := min(max(f.Values, 0), 100)
	for _, homes := range [][]int{nil, {0}, make([]int, n), homeBelow(n), make([]int, n+1), slices.Repeat([]int{-1}, n)} {
		homesRefused(t, name, f, homes)
	}
}

func TestHomeNotPlain(t *testing.T) {
	for _, f := range plainNoShape() {
		homeNothing(t, "not ShapeOk", f)
	}
	homeNothing(t, "none", impl.Fn{})
	for _, f := range []impl.Fn{checkJoin(), checkLoop(), checkNest(), runFib(), plainBoth(), fnFull()} {
		homeNothing(t, "with phis", f)
	}
	for _, c := range homeCases() {
		for b := range c.f.Blocks {
			f := fnCopy(c.f)
			f.Values = max(f.Values, 1)
			f.Blocks[b].Phis = []impl.Phi{phiOf(0)}
			wantShape(t, true, f, c.name)
			homeNothing(t, c.name+": with a phi without arms", f)
			homesRefused(t, c.name+": with a phi without arms", f, c.guess)
			f.Blocks[b].Phis = nil
			f.Blocks[b].Term.Kind = 4
			homeNothing(t, c.name+": with a Term that is none", f)
			homesRefused(t, c.name+": with a Term that is none", f, c.guess)
		}
	}
}

// homesRoomy has spare room behind the homes, with something in it.
func homesRoomy(homes []int) []int { return append(slices.Clone(homes), 1, -7)[:len(homes)] }

// homeUntouched asks all four functions with room behind every list, and looks whether anything was written there, or counts.
func homeUntouched(t *testing.T, name string, f impl.Fn, homes []int) {
	t.Helper()
	roomy, room := fnRoomy(f), homesRoomy(homes)
	before, beforeHomes := fnCopy(fnWhole(roomy)), slices.Clone(room[:cap(room)])
	wantGuess(t, name+" with room", roomy, impl.Guess(f))
	wantHomesOk(t, name+" with room", roomy, room, impl.HomesOk(f, homes))
	want, ok := impl.Renamed(f, homes)
	wantRenamed(t, name+" with room", roomy, room, want, ok)
	wantSlots(t, name+" with room", room, impl.SlotsOf(homes))
	if !reflect.DeepEqual(fnWhole(roomy), before) || !slices.Equal(room[:cap(room)], beforeHomes) {
		t.Errorf("%s: an argument was written into", name)
	}
	got, _ := impl.Renamed(roomy, room)
	again, _ := impl.Renamed(roomy, room)
	wantApart(t, name, roomy, got, again)
}

// Promise 21: neither a program nor homes nor the spare room behind them are written into, and none of it counts.
func TestHomeWritesIntoNothing(t *testing.T) {
	for _, c := range homeCases() {
		homeUntouched(t, c.name, c.f, c.guess)
		homeUntouched(t, c.name, c.f, make([]int, c.f.Values))
	}
	for _, c := range renameCases() {
		homeUntouched(t, c.name, c.f, c.homes)
	}
	for _, c := range plainAnyPrograms() {
		homeUntouched(t, c.name, c.f, impl.Guess(c.f))
		homeUntouched(t, c.name, c.f, []int{-1, 40, 3})
	}
}

func TestHomeSameEachTime(t *testing.T) {
	for range 20 {
		lookHomes(t, slices.Concat(homeOrdinary(), homeWho(), homeFew()))
		for _, c := range renameCases() {
			lookRename(t, c)
		}
	}
	for range 3 {
		lookHomes(t, homeMany())
	}
}

// Lists that share memory with each other in the argument are apart in the answer.
func TestHomeAnswersAreApart(t *testing.T) {
	list := []impl.Ins{insOut(0), insCopy(1, 0), insOut(0), insOut(1), insOut(0)}
	f := progOf(2,
		blockOf(graphTo(1), insRead(0)),
		impl.Block{List: list[:2], Term: graphTo(2)},
		impl.Block{List: list[:3], Term: graphTo(3)},
		impl.Block{List: list[1:4], Term: termBack(1)})
	for _, homes := range [][]int{{6, 6}, {6, 7}} {
		before := slices.Clone(list)
		wantRenamed(t, "shared lists", f, homes, renameModel(f, homes), true)
		g, _ := impl.Renamed(f, homes)
		wantApart(t, "shared lists", g)
		plainScribble(g)
		if !slices.Equal(list, before) {
			t.Errorf("shared lists: they became %+v", list)
		}
	}
}

// No answer is kept from one call to another, and none is what was handed in.
func TestHomeAnswersAreNew(t *testing.T) {
	for _, c := range homeCases() {
		fnScribble(impl.Guess(c.f))
		homes := slices.Clone(c.guess)
		g, _ := impl.Renamed(c.f, homes)
		fnScribble(homes)
		if c.guess != nil {
			wantFn(t, c.name, g, renameModel(c.f, c.guess))
		}
		plainScribble(g)
		lookHome(t, c)
	}
}
