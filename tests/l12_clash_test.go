package tests

import (
	"math"
	"reflect"
	"slices"
	"testing"

	"loop.example/g00192/impl"
)

// A clashCase is a program that is plain, and all pairs of its values that are in one another's way.
type clashCase struct {
	name  string
	f     impl.Fn
	pairs [][2]int
}

func clashOrdinary() []clashCase {
	oneThree := oneBlock(3, 2, insRead(0), insRead(1), insAdd(2, 0, 1))
	return []clashCase{
		{"one block", oneThree, [][2]int{{0, 1}}},
		{"one block in which each is taken ahead of the next", oneBlock(3, 2, insRead(0), insOut(0), insRead(1), insAdd(2, 1, 1)), nil},
		{"straight on", checkStraight(), [][2]int{{0, 1}, {0, 2}}},
		{"a choice whose ways meet", plainBy(checkJoin(), [3]int{1, 3, 1}, [3]int{2, 3, 2}), [][2]int{{0, 1}, {0, 2}, {0, 3}}},
		{"a loop", plainBy(checkLoop(), [3]int{0, 3, 0}, [3]int{0, 4, 2}, [3]int{2, 3, 5}, [3]int{2, 4, 6}),
			[][2]int{{0, 1}, {0, 2}, {1, 2}, {1, 3}, {2, 3}, {1, 4}, {3, 4}, {1, 5}, {3, 5}, {4, 5}, {1, 6}, {5, 6}, {3, 6}}},
		{"a loop in a loop", plainBy(edgeNestSplit(), [3]int{0, 2, 0}, [3]int{3, 3, 4}, [3]int{4, 2, 6}, [3]int{6, 3, 2}),
			[][2]int{{0, 1}, {1, 2}, {0, 4}, {1, 4}, {2, 4}, {0, 3}, {1, 3}, {2, 3}, {0, 6}, {1, 6}, {0, 2}, {0, 5}}},
		{"a circle of two copies", plainBy(plainRing(11, 10), [3]int{0, 10, 0}, [3]int{0, 11, 1}, [3]int{2, 12, 10}, [3]int{2, 10, 11}, [3]int{2, 11, 12}),
			[][2]int{{0, 1}, {1, 10}, {10, 11}, {9, 10}, {9, 11}, {11, 12}, {10, 12}}},
	}
}

// clashCopies are the edges of what is copied.
func clashCopies() []clashCase {
	return []clashCase{
		{"a copy, and both are needed behind it", oneBlock(2, 0, insRead(0), insCopy(1, 0), insOut(1)), nil},
		{"a copy, and what is copied is needed no more", oneBlock(2, 1, insRead(0), insCopy(1, 0)), nil},
		{"a copy, and a third is needed behind it", oneBlock(3, 2, insRead(2), insRead(0), insCopy(1, 0), insOut(1)), [][2]int{{0, 2}, {1, 2}}},
		{"a copy, and what was copied is made anew", oneBlock(2, 0, insRead(0), insCopy(1, 0), insAdd(0, 0, 0), insOut(1)), [][2]int{{0, 1}}},
		{"a copy that is made anew", oneBlock(2, 0, insRead(0), insCopy(1, 0), insAdd(1, 1, 0), insOut(1)), [][2]int{{0, 1}}},
		{"in each other's way ahead of the copy", oneBlock(2, 0, insRead(1), insRead(0), insOut(1), insCopy(1, 0), insOut(1)), [][2]int{{0, 1}}},
		{"in each other's way in another block", progOf(2, blockOf(graphTo(1), insRead(0), insCopy(1, 0)), blockOf(termBack(0), insOut(1), insRead(1), insOut(1))), [][2]int{{0, 1}}},
		{"copies both ways", oneBlock(2, 0, insRead(0), insCopy(1, 0), insCopy(0, 1), insOut(1)), nil},
		{"a copy to itself that is taken", oneBlock(2, 0, insRead(1), insCopy(1, 1), insOut(1), insConst(0, 1)), nil},
		{"a copy to itself that nobody takes", oneBlock(2, 0, insRead(1), insCopy(1, 1), insConst(0, 1)), nil},
		{"a copy to itself is a making", oneBlock(2, 0, insCopy(1, 1)), [][2]int{{0, 1}}},
		{"a copy to itself alone", oneBlock(1, 0, insCopy(0, 0)), nil},
		{"two copies of one, all needed", oneBlock(3, 0, insRead(0), insCopy(1, 0), insCopy(2, 0), insOut(1), insOut(2)), [][2]int{{1, 2}}},
		{"two copies of one, of which the first is taken between", oneBlock(3, 0, insRead(0), insCopy(1, 0), insOut(1), insCopy(2, 0), insOut(2)), nil},
		{"a copy of a copy", oneBlock(3, 0, insRead(0), insCopy(1, 0), insCopy(2, 1), insOut(1), insOut(2)), [][2]int{{0, 2}}},
		{"a copy that nobody takes", oneBlock(3, 0, insRead(0), insRead(1), insCopy(2, 0), insOut(1)), [][2]int{{0, 1}, {1, 2}}},
		{"a copy that nobody takes, of what nobody needs behind it", oneBlock(3, 0, insRead(0), insRead(1), insCopy(2, 1)), [][2]int{{0, 1}, {0, 2}}},
		{"one number, but no copy", oneBlock(3, 0, insConst(0, 5), insConst(1, 5), insOut(1)), [][2]int{{0, 1}}},
		{"the same as what it takes, but no copy", oneBlock(2, 0, insRead(0), insOp(impl.OpAnd, 1, 0, 0), insOut(1)), [][2]int{{0, 1}}},
		{"a load takes its A, but is no copy", oneBlock(2, 0, insLoad(1, 0), insOut(1)), [][2]int{{0, 1}}},
	}
}

// clashMade are the edges of what is made, and what is needed.
func clashMade() []clashCase {
	dead := blockOf(termBack(1), insRead(1), insRead(2), insOut(2))
	return []clashCase{
		{"made, and taken by nobody", oneBlock(3, 0, insRead(0), insRead(1), insConst(2, 5)), [][2]int{{0, 1}, {0, 2}}},
		{"made and taken by nobody, and nothing is needed behind it", oneBlock(2, 1, insRead(0), insRead(1)), nil},
		{"needed by the Term alone", oneBlock(2, 0, insRead(1)), [][2]int{{0, 1}}},
		{"needed in the block behind", progOf(3, blockOf(graphTo(1), insRead(0), insRead(1)), blockOf(termBack(0), insOut(1))), [][2]int{{0, 1}}},
		{"needed on one of two ways", progOf(4, blockOf(termBranch(0, 1, 2), insRead(1), insRead(0)), blockOf(termBack(1)), blockOf(termBack(2), insRead(2))), [][2]int{{0, 1}}},
		{"made in the place of what it takes", oneBlock(3, 2, insRead(0), insAdd(1, 0, 0), insAdd(2, 1, 1)), nil},
		{"made again by taking itself", oneBlock(2, 0, insRead(0), insAdd(0, 0, 0)), nil},
		{"made twice, in two ways", oneBlock(4, 0, insRead(1), insRead(2), insOut(1), insOut(2), insRead(1), insRead(3), insOut(1), insOut(3), insRead(0)), [][2]int{{1, 2}, {1, 3}}},
		{"made twice, and needed only behind the second", oneBlock(3, 0, insRead(1), insRead(2), insOut(2), insRead(1), insRead(0), insOut(1)), [][2]int{{0, 1}}},
		{"made twice, while another is needed only behind the second", oneBlock(2, 0, insRead(1), insOut(1), insRead(0), insRead(1)), [][2]int{{0, 1}}},
		{"needed, and never made", oneBlock(3, 0, insRead(0), insOut(2)), [][2]int{{0, 2}}},
		{"two that are needed, and never made", oneBlock(3, 2, insOut(0), insOut(1)), nil},
		{"never made nor taken", oneBlock(3, 0, insRead(0), insRead(2), insOut(2)), [][2]int{{0, 2}}},
		{"made in a block that is not reached", progOf(3, blockOf(termBack(0), insRead(0)), dead), [][2]int{{1, 2}}},
		{"made in a block that is not reached, and goes to one that is", progOf(3, blockOf(graphTo(1), insRead(0)), blockOf(termBack(0)), blockOf(graphTo(1), insRead(2))), [][2]int{{0, 2}}},
		{"places that make nothing", oneBlock(3, 1, insOut(2), insStore(2, 2), insOut(1)), nil},
		{"a value 0 that is not named is not made", oneBlock(3, 2, insRead(1), insOut(1), insOut(2)), [][2]int{{1, 2}}},
		{"a block without a list", progOf(3, blockOf(termBack(2))), nil},
		{"blocks without lists", progOf(2, blockOf(termBranch(0, 1, 0)), blockOf(termBack(1))), nil},
		{"a program with no value", progOf(0, blockOf(graphTo(0))), nil},
		{"one value", oneBlock(1, 0, insRead(0)), nil},
		{"made last in a loop, and taken first", progOf(3, blockOf(graphTo(1), insRead(1)), blockOf(termBranch(2, 1, 2), insOut(0), insRead(2), insRead(0)), blockOf(termBack(1))), [][2]int{{0, 1}, {1, 2}, {0, 2}}},
		{"needed all the way round a loop", progOf(3, blockOf(graphTo(1), insRead(1)), blockOf(termBranch(0, 1, 2), insRead(2), insRead(0)), blockOf(termBack(1))), [][2]int{{0, 1}, {1, 2}}},
		{"made in a loop that is never left", progOf(3, blockOf(graphTo(1), insRead(1)), blockOf(graphTo(1), insRead(0), insOut(0)), blockOf(termBack(1))), nil},
		{"every way of making", oneBlock(8, 0, insConst(1, 0), insAdd(2, 0, 0), insLoad(3, 0), insRead(4), insCopy(5, 0), insCopy(6, 7), insStore(0, 0)),
			[][2]int{{0, 1}, {0, 2}, {0, 3}, {0, 4}, {0, 6}, {1, 7}, {2, 7}, {3, 7}, {4, 7}, {5, 7}}},
	}
}

func clashCases() []clashCase { return slices.Concat(clashOrdinary(), clashCopies(), clashMade()) }

func clashRows(n int, pairs [][2]int) [][]bool {
	rows := make([][]bool, n)
	for v := range rows {
		rows[v] = make([]bool, n)
	}
	for _, p := range pairs {
		rows[p[0]][p[1]] = true
		rows[p[1]][p[0]] = true
	}
	return rows
}

func clashSame(a, b [][]bool) bool {
	return slices.EqualFunc(a, b, func(x, y []bool) bool { return slices.Equal(x, y) })
}

func clashCount(row []bool) int {
	n := 0
	for _, one := range row {
		n += flag(one)
	}
	return n
}

func wantClashes(t *testing.T, name string, f impl.Fn, want [][]bool) {
	t.Helper()
	if got := impl.Clashes(f); !clashSame(got, want) {
		t.Errorf("%s: Clashes is %v, not %v: %+v", name, got, want, f)
	}
}

func wantClash(t *testing.T, name string, f impl.Fn, a, b int, want bool) {
	t.Helper()
	if got := impl.Clash(f, a, b); got != want {
		t.Errorf("%s: Clash %d, %d is %v: %+v", name, a, b, got, f)
	}
}

func wantDegree(t *testing.T, name string, f impl.Fn, v, want int) {
	t.Helper()
	if got := impl.Degree(f, v); got != want {
		t.Errorf("%s: Degree %d is %d, not %d: %+v", name, v, got, want, f)
	}
}

// lookClash asks all three functions of each value, and of the numbers next to them.
func lookClash(t *testing.T, name string, f impl.Fn, rows [][]bool) {
	t.Helper()
	wantClashes(t, name, f, rows)
	for a, row := range rows {
		for b, want := range row {
			wantClash(t, name, f, a, b, want)
		}
		wantDegree(t, name, f, a, clashCount(row))
		clashNone(t, name, f, a)
	}
	wantDegree(t, name, f, -1, -1)
	wantDegree(t, name, f, len(rows), -1)
}

// clashNone asks of a value and of what are no values.
func clashNone(t *testing.T, name string, f impl.Fn, v int) {
	t.Helper()
	for _, far := range []int{-1, f.Values} {
		wantClash(t, name, f, v, far, false)
		wantClash(t, name, f, far, v, false)
	}
}

func lookClashes(t *testing.T, cases []clashCase) {
	t.Helper()
	for _, c := range cases {
		wantPlain(t, c.name, c.f, true)
		lookClash(t, c.name, c.f, clashRows(c.f.Values, c.pairs))
	}
}

func TestClashOrdinary(t *testing.T) { lookClashes(t, clashOrdinary()) }

func TestClashCopies(t *testing.T) { lookClashes(t, clashCopies()) }

func TestClashMade(t *testing.T) { lookClashes(t, clashMade()) }

// clashModel goes by the words, two values at a time, with what liveModel tells to be needed.
func clashModel(f impl.Fn) [][]bool {
	at := liveModel(f).at
	rows := clashRows(f.Values, nil)
	for b, block := range f.Blocks {
		for i, x := range block.List {
			for one := range f.Values {
				for other := range f.Values {
					copied := x.Op == impl.InCopy && x.D == one && x.A == other
					if one != other && !copied && impl.InsDef(x) == one && slices.Contains(at[b][i+1], other) {
						rows[one][other], rows[other][one] = true, true
					}
				}
			}
		}
	}
	return rows
}

func TestClashModelOfCases(t *testing.T) {
	for _, c := range clashCases() {
		if got, want := clashModel(c.f), clashRows(c.f.Values, c.pairs); !clashSame(got, want) {
			t.Errorf("%s: the model tells %v, not %v", c.name, got, want)
		}
	}
}

// clashPromise is promise 12 of one plain program, by what the program itself tells of its places.
func clashPromise(t *testing.T, name string, f impl.Fn) {
	t.Helper()
	rows := impl.Clashes(f)
	if len(rows) != f.Values {
		t.Fatalf("%s: %d rows: %+v", name, len(rows), f)
	}
	reason := clashRows(f.Values, nil)
	for b, block := range f.Blocks {
		for i, x := range block.List {
			made := impl.InsDef(x)
			for _, v := range impl.LiveAt(f, b, i+1) {
				if made < 0 || v == made || x.Op == impl.InCopy && v == x.A {
					continue
				}
				reason[made][v], reason[v][made] = true, true
				if !rows[made][v] {
					t.Errorf("%s: %d is made at %d, %d, and %d is needed behind it: %+v", name, made, b, i, v, f)
				}
			}
		}
	}
	for a, row := range rows {
		if len(row) != f.Values || row[a] {
			t.Errorf("%s: row %d is %v: %+v", name, a, row, f)
		}
		for b, in := range row {
			if in != rows[b][a] {
				t.Errorf("%s: of %d and %d it is not so both ways round: %+v", name, a, b, f)
			}
			if in && !reason[a][b] {
				t.Errorf("%s: %d and %d are not in each other's way anywhere: %+v", name, a, b, f)
			}
		}
	}
}

// Promise 12: who is in whose way is so both ways round; what is made is in the way of all that is needed behind it.
func TestClashPromise(t *testing.T) {
	for _, c := range clashCases() {
		clashPromise(t, c.name, c.f)
	}
	for _, c := range liveCases() {
		clashPromise(t, c.name, c.f)
		lookClash(t, c.name, c.f, clashModel(c.f))
	}
	for _, c := range plainCases() {
		clashPromise(t, c.name, c.plain)
		wantClashes(t, c.name, c.plain, clashModel(c.plain))
	}
}

// What the program itself lowers, as it came and made smaller.
func TestClashLowered(t *testing.T) {
	for _, c := range edgeCases() {
		for _, f := range []impl.Fn{c.f, impl.Prune(impl.Fold(c.f))} {
			g, ok := impl.Split(f)
			if !ok {
				t.Fatalf("%s: Split is false", c.name)
			}
			p, ok := impl.Lower(g)
			if !ok {
				t.Fatalf("%s: Lower is false", c.name)
			}
			clashPromise(t, c.name, p)
			lookClash(t, c.name, p, clashModel(p))
		}
	}
}

func TestClashDrawnLowered(t *testing.T) {
	seen, most := 0, 0
	wellDrawn(12, 60, func(f impl.Fn) {
		g, ok := impl.Split(f)
		if !ok {
			return
		}
		p, ok := impl.Lower(g)
		if !ok {
			return
		}
		seen++
		clashPromise(t, "drawn", p)
		wantClashes(t, "drawn", p, clashModel(p))
		for v := range p.Values {
			most = max(most, impl.Degree(p, v))
		}
	})
	if seen < 300 || most < 9 {
		t.Error(seen, most)
	}
}

func TestClashDrawnPlain(t *testing.T) {
	d := &drawer{x: 112}
	some := 0
	for range 800 {
		f := liveAnyOf(d, 1+d.draw(8), 1+d.draw(9), d.draw(7))
		clashPromise(t, "drawn", f)
		rows := clashModel(f)
		lookClash(t, "drawn", f, rows)
		n := clashCount(slices.Concat(rows...))
		some += flag(n > 0 && n < f.Values*(f.Values-1))
	}
	if some < 300 {
		t.Error(some)
	}
}

// clashPlaces are all places that do something with these values.
func clashPlaces(values int) []impl.Ins {
	list := []impl.Ins{}
	for v := range values {
		list = append(list, insRead(v), insOut(v))
		for w := range values {
			list = append(list, insCopy(v, w), insAdd(v, w, w))
		}
	}
	return list
}

// All programs of one block with up to three places that read, tell, copy or add two values.
func TestClashAllSmallPrograms(t *testing.T) {
	places := clashPlaces(2)
	for _, x := range places {
		for _, y := range places {
			for _, z := range places {
				f := oneBlock(2, 0, x, y, z)
				wantClashes(t, "small", f, clashModel(f))
			}
		}
	}
	places = clashPlaces(3)
	for _, x := range places {
		for _, y := range places {
			f := progOf(3, blockOf(termBranch(0, 0, 1), x), blockOf(termBack(1), y))
			wantClashes(t, "small", f, clashModel(f))
		}
	}
}

// clashAsOne has the value a wherever f has b.
func clashAsOne(f impl.Fn, a, b int) impl.Fn {
	as := func(v int) int {
		if v == b {
			return a
		}
		return v
	}
	g := fnCopy(f)
	for _, block := range g.Blocks {
		for i, x := range block.List {
			if impl.InsDef(x) >= 0 {
				block.List[i].D = as(x.D)
			}
			if takes := len(impl.InsUses(x)); takes > 0 {
				block.List[i].A = as(x.A)
				if takes > 1 {
					block.List[i].B = as(x.B)
				}
			}
		}
	}
	for b := range g.Blocks {
		if len(impl.TermUses(g.Blocks[b].Term)) > 0 {
			g.Blocks[b].Term.A = as(g.Blocks[b].Term.A)
		}
	}
	return g
}

// Two values that are not in each other's way can be one: the program tells the same. Of those that are some can't.
func TestClashFreeValuesCanBeOne(t *testing.T) {
	d := &drawer{x: 1212}
	free, bound := 0, 0
	for range 1200 {
		f := liveAnyOf(d, 1+d.draw(5), 2+d.draw(5), 5)
		reads := runReads(d)
		told, how, end := impl.Run(f, reads, 300)
		for a := range f.Values {
			for b := range a {
				g := clashAsOne(f, a, b)
				wantPlain(t, "as one", g, true)
				toldG, howG, endG := impl.Run(g, reads, 300)
				same := slices.Equal(told, toldG) && how == howG && end == endG
				if impl.Clash(f, a, b) {
					bound += flag(!same)
					continue
				}
				free++
				if !same {
					t.Errorf("%d and %d as one: Run is %v, %d, %d, not %v, %d, %d: %+v", a, b, toldG, howG, endG, told, how, end, f)
				}
			}
		}
	}
	if free < 1000 || bound < 300 {
		t.Error(free, bound)
	}
}

// clashAll has every two values in each other's way.
func clashAll() impl.Fn {
	f := fnOf(impl.MaxValues, impl.MaxBlocks)
	for v := range impl.MaxValues {
		addPlace(&f, v/20, insRead(v))
		addPlace(&f, 15-v/20, insOut(v))
	}
	for b := range f.Blocks {
		f.Blocks[b].Term = graphTo(min(b+1, 15))
		for len(f.Blocks[b].List) < impl.MaxList {
			addPlace(&f, b, insOut(0))
		}
	}
	f.Blocks[15].Term = termBack(79)
	return f
}

// Limits: MaxBlocks blocks of MaxList places, and MaxValues values that are all in each other's way.
func TestClashLimits(t *testing.T) {
	f := clashAll()
	wantClashes(t, "all values", f, clashModel(f))
	clashPromise(t, "all values", f)
	for v := range f.Values {
		wantDegree(t, "all values", f, v, impl.MaxValues-1)
		wantClash(t, "all values", f, v, 79, v < 79)
	}
	wantClash(t, "all values", f, 79, 80, false)
	for name, spoil := range map[string]func(f *impl.Fn){
		"a value too many": func(f *impl.Fn) { f.Values++ },
		"a block too many": func(f *impl.Fn) { f.Blocks = append(f.Blocks, blockOf(graphTo(0))) },
		"a place too many": func(f *impl.Fn) { addPlace(f, 7, insOut(0)) },
	} {
		g := fnCopy(f)
		spoil(&g)
		clashNothing(t, name, g)
	}
}

// Limits: a list that is just full, of which each place makes a value that is needed till the end, and the last nothing.
func TestClashLimitsOfLists(t *testing.T) {
	f := oneBlock(impl.MaxList, 0)
	for v := range impl.MaxList {
		addPlace(&f, 0, insRead(v))
	}
	pairs := [][2]int{}
	for v := 1; v < impl.MaxList; v++ {
		pairs = append(pairs, [2]int{0, v})
	}
	lookClashes(t, []clashCase{{"just full", f, pairs}})
	wantDegree(t, "just full", f, 0, impl.MaxList-1)
	addPlace(&f, 0, insOut(0))
	clashNothing(t, "one too many", f)
}

// Limits: what is needed comes all the way through MaxBlocks blocks, whichever of them goes first.
func TestClashLimitsOfBlocks(t *testing.T) {
	for _, step := range []int{1, 3, 5, 7, 9, 11, 13, 15} {
		row := []int{}
		for i := range impl.MaxBlocks {
			row = append(row, i*step%impl.MaxBlocks)
		}
		f := liveRow(row, termBack(0))
		f.Values = 2 + impl.MaxBlocks
		pairs := [][2]int{}
		for b := range impl.MaxBlocks {
			addPlace(&f, b, insRead(2+b))
			pairs = append(pairs, [2]int{0, 2 + b})
		}
		lookClashes(t, []clashCase{{"a row", f, pairs}})
	}
}

// clashNothing is what is told of a program that is not plain.
func clashNothing(t *testing.T, name string, f impl.Fn) {
	t.Helper()
	wantPlain(t, name, f, false)
	wantClashes(t, name, f, nil)
	for _, a := range []int{0, 1, 2, f.Values - 1, f.Values, -1, math.MaxInt, math.MinInt} {
		for _, b := range []int{0, 1, 2, f.Values - 1, f.Values, -1, math.MaxInt, math.MinInt} {
			wantClash(t, name, f, a, b, false)
		}
		wantDegree(t, name, f, a, -1)
	}
}

func TestClashNotPlain(t *testing.T) {
	for _, f := range plainNoShape() {
		clashNothing(t, "not ShapeOk", f)
	}
	for _, f := range []impl.Fn{checkJoin(), checkLoop(), checkNest(), runFib(), plainBoth(), fnFull()} {
		clashNothing(t, "with phis", f)
	}
	for _, c := range clashCases() {
		for b := range c.f.Blocks {
			f := fnCopy(c.f)
			f.Values = max(f.Values, 1)
			f.Blocks[b].Phis = []impl.Phi{phiOf(0)}
			wantShape(t, true, f, c.name)
			clashNothing(t, c.name+": with a phi without arms", f)
			f.Blocks[b].Phis = nil
			f.Blocks[b].Term.Kind = 4
			clashNothing(t, c.name+": with a Term that is none", f)
		}
	}
}

func TestClashNoSuchValue(t *testing.T) {
	for _, c := range clashCases() {
		n := c.f.Values
		for _, far := range []int{-1, -2, n, n + 1, 80, 99, 1 << 32, math.MaxInt, math.MinInt} {
			if far < n && far >= 0 {
				continue
			}
			wantDegree(t, c.name, c.f, far, -1)
			wantClash(t, c.name, c.f, far, far, false)
			for v := range n {
				wantClash(t, c.name, c.f, far, v, false)
				wantClash(t, c.name, c.f, v, far, false)
			}
		}
	}
}

// Promise 21: neither a program nor the spare room behind it is written into, and none of it counts.
func TestClashWritesIntoNothing(t *testing.T) {
	for _, c := range clashCases() {
		f := fnRoomy(c.f)
		before := fnCopy(fnWhole(f))
		lookClash(t, c.name, f, clashRows(f.Values, c.pairs))
		if !reflect.DeepEqual(fnWhole(f), before) {
			t.Errorf("%s: an argument was written into", c.name)
		}
	}
	for _, c := range plainAnyPrograms() {
		f := fnRoomy(c.f)
		before := fnCopy(fnWhole(f))
		wantClashes(t, c.name+" with room", f, impl.Clashes(c.f))
		wantClash(t, c.name+" with room", f, 0, 1, impl.Clash(c.f, 0, 1))
		wantDegree(t, c.name+" with room", f, 0, impl.Degree(c.f, 0))
		if !reflect.DeepEqual(fnWhole(f), before) {
			t.Errorf("%s: an argument was written into", c.name)
		}
	}
}

func TestClashSameEachTime(t *testing.T) {
	for range 20 {
		lookClashes(t, clashCases())
	}
}

// No two rows of one answer share memory, and none is kept from one call to another.
func TestClashAnswersAreNew(t *testing.T) {
	for _, c := range clashCases() {
		want := clashRows(c.f.Values, c.pairs)
		got := impl.Clashes(c.f)
		for v := range got {
			if !slices.Equal(got[v], want[v]) {
				t.Errorf("%s: row %d became %v, not %v", c.name, v, got[v], want[v])
			}
			row := got[v][:cap(got[v])]
			for b := range row {
				row[b] = !row[b]
			}
		}
		clear(got[:cap(got)])
		lookClash(t, c.name, c.f, want)
	}
}
