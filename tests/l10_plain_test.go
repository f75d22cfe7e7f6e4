package tests

import (
	"math"
	"reflect"
	"slices"
	"testing"

	"loop.example/g00192/impl"
)

// A plainCase is a program that is well and has no critical edge, what it is when it is lowered, and the values that copies make there.
type plainCase struct {
	name    string
	f       impl.Fn
	reads   []int
	plain   impl.Fn
	targets []int
}

// plainBy is f without phis, with one value more, and with these copies behind the lists: of each its block, D and A.
func plainBy(f impl.Fn, copies ...[3]int) impl.Fn {
	g := fnCopy(f)
	g.Values++
	for b := range g.Blocks {
		g.Blocks[b].Phis = nil
	}
	for _, c := range copies {
		addPlace(&g, c[0], insCopy(c[1], c[2]))
	}
	return g
}

func plainCaseOf(name string, f impl.Fn, reads []int, targets []int, copies ...[3]int) plainCase {
	return plainCase{name, f, reads, plainBy(f, copies...), targets}
}

// plainBoth has a loop, and in it a choice whose two ways meet: of what it counts down it adds up what is odd.
func plainBoth() impl.Fn {
	return progOf(10,
		blockOf(graphTo(1), insRead(0), insConst(1, -1), insConst(8, 1), insConst(9, 0)),
		withPhis(blockOf(termBranch(2, 2, 6)), phiOf(2, [2]int{0, 0}, [2]int{5, 7}), phiOf(3, [2]int{0, 9}, [2]int{5, 6})),
		blockOf(termBranch(4, 3, 4), insOut(2), insOp(impl.OpAnd, 4, 2, 8)),
		blockOf(graphTo(5), insAdd(5, 3, 2)),
		blockOf(graphTo(5)),
		withPhis(blockOf(graphTo(1), insAdd(7, 2, 1)), phiOf(6, [2]int{3, 5}, [2]int{4, 3})),
		blockOf(termBack(3)))
}

func plainOrdinary() []plainCase {
	return []plainCase{
		plainCaseOf("one block", oneBlock(2, 1, insRead(0), insOut(0), insAdd(1, 0, 0)), []int{4}, nil),
		plainCaseOf("straight on", checkStraight(), []int{5}, nil),
		plainCaseOf("a choice whose ways meet", checkJoin(), []int{4}, []int{3}, [3]int{1, 3, 1}, [3]int{2, 3, 2}),
		plainCaseOf("a choice whose ways meet, the other way", checkJoin(), []int{0}, []int{3}, [3]int{1, 3, 1}, [3]int{2, 3, 2}),
		plainCaseOf("a loop", checkLoop(), nil, []int{3, 4}, [3]int{0, 3, 0}, [3]int{0, 4, 2}, [3]int{2, 3, 5}, [3]int{2, 4, 6}),
		plainCaseOf("a loop whose phis take each other", runFib(), []int{6}, []int{3, 4, 5},
			[3]int{0, 3, 1}, [3]int{0, 4, 2}, [3]int{0, 5, 0}, [3]int{2, 3, 4}, [3]int{2, 4, 6}, [3]int{2, 5, 7}),
		plainCaseOf("a choice in a loop", plainBoth(), []int{5}, []int{2, 3, 6},
			[3]int{0, 2, 0}, [3]int{0, 3, 9}, [3]int{3, 6, 5}, [3]int{4, 6, 3}, [3]int{5, 2, 7}, [3]int{5, 3, 6}),
		plainCaseOf("a loop in a loop behind Split", edgeNestSplit(), []int{2}, []int{2, 3},
			[3]int{0, 2, 0}, [3]int{3, 3, 4}, [3]int{4, 2, 6}, [3]int{6, 3, 2}),
		plainCaseOf("a loop of one block behind Split", edgeUntil(3, 3, blockOf(graphTo(1))), []int{4}, []int{3, 4},
			[3]int{0, 3, 0}, [3]int{0, 4, 2}, [3]int{3, 4, 3}, [3]int{3, 3, 5}),
		plainCaseOf("reads and tells", runEcho(), []int{3, -2, 8}, nil),
	}
}

// plainRing has a loop with as many phis as it has arms from behind: phi i makes value 10 + i, at first of value i.
func plainRing(back ...int) impl.Fn {
	head, first := blockOf(termBranch(9, 2, 3), insRead(9)), blockOf(graphTo(1))
	for i, v := range back {
		head.Phis = append(head.Phis, phiOf(10+i, [2]int{0, i}, [2]int{2, v}))
		head.List = append(head.List, insOut(10+i))
		first.List = append(first.List, insConst(i, 100+i))
	}
	return progOf(10+len(back), first, head, blockOf(graphTo(1)), blockOf(termBack(10)))
}

// plainAtOnce are phis of one block whose arms take each other's values.
func plainAtOnce() []plainCase {
	ring := func(name string, back []int, targets []int, row ...[2]int) plainCase {
		copies := [][3]int{}
		for i := range back {
			copies = append(copies, [3]int{0, 10 + i, i})
		}
		for _, x := range row {
			copies = append(copies, [3]int{2, x[0], x[1]})
		}
		return plainCaseOf(name, plainRing(back...), []int{1, 2, 3, 4, 0}, targets, copies...)
	}
	return []plainCase{
		ring("a circle of two", []int{11, 10}, []int{10, 11, 12}, [2]int{12, 10}, [2]int{10, 11}, [2]int{11, 12}),
		ring("a circle of three", []int{11, 12, 10}, []int{10, 11, 12, 13}, [2]int{13, 10}, [2]int{10, 11}, [2]int{11, 12}, [2]int{12, 13}),
		ring("a circle of three the other way", []int{12, 10, 11}, []int{10, 11, 12, 13}, [2]int{13, 10}, [2]int{10, 12}, [2]int{12, 11}, [2]int{11, 13}),
		ring("two circles", []int{11, 10, 13, 12}, []int{10, 11, 12, 13, 14},
			[2]int{14, 10}, [2]int{10, 11}, [2]int{11, 14}, [2]int{14, 12}, [2]int{12, 13}, [2]int{13, 14}),
		ring("a circle, and one that takes of it", []int{11, 10, 10}, []int{10, 11, 12, 13}, [2]int{12, 10}, [2]int{13, 10}, [2]int{10, 11}, [2]int{11, 13}),
		ring("a row", []int{11, 12, 0}, []int{10, 11, 12}, [2]int{10, 11}, [2]int{11, 12}, [2]int{12, 0}),
		ring("a row the other way", []int{0, 10, 11}, []int{10, 11, 12}, [2]int{12, 11}, [2]int{11, 10}, [2]int{10, 0}),
		ring("all take one", []int{2, 2, 2}, []int{10, 11, 12}, [2]int{10, 2}, [2]int{11, 2}, [2]int{12, 2}),
		ring("an arm that is the phi itself", []int{10, 1}, []int{10, 11}, [2]int{11, 1}),
		ring("each arm is the phi itself", []int{10, 11}, []int{10, 11}),
		ring("one that is itself between a circle", []int{12, 11, 10}, []int{10, 11, 12, 13}, [2]int{13, 10}, [2]int{10, 12}, [2]int{12, 13}),
	}
}

// plainEdges are the edges of who goes where.
func plainEdges() []plainCase {
	back, read := blockOf(termBack(1)), insRead(0)
	one := func(d, v int) impl.Phi { return phiOf(d, [2]int{0, v}) }
	return []plainCase{
		plainCaseOf("no phi at all, of many blocks", progOf(2, blockOf(termBranch(0, 1, 2), read, insRead(1)), blockOf(graphTo(3)), blockOf(graphTo(3), insOut(0)), back), []int{0, 2}, nil),
		plainCaseOf("no value at all", progOf(0, blockOf(graphTo(1)), blockOf(graphTo(1))), nil, nil),
		plainCaseOf("a phi with one arm", progOf(2, blockOf(graphTo(1), read), withPhis(back, one(1, 0))), []int{7}, []int{1}, [3]int{0, 1, 0}),
		plainCaseOf("phis with one arm, by their order", progOf(5, blockOf(graphTo(1), read, insRead(2)), withPhis(back, one(4, 0), one(1, 2), one(3, 0))), []int{7, 8}, []int{1, 3, 4},
			[3]int{0, 4, 0}, [3]int{0, 1, 2}, [3]int{0, 3, 0}),
		plainCaseOf("copies behind all that was in the list", progOf(3, blockOf(graphTo(1), read, insOut(0), insAdd(2, 0, 0), insStore(2, 0), insOut(2)), withPhis(blockOf(termBack(1), insOut(1)), one(1, 2))), []int{3}, []int{1}, [3]int{0, 1, 2}),
		plainCaseOf("to a block without phis, and from there to one with", progOf(3, blockOf(graphTo(1), read), blockOf(graphTo(2), insOut(0)), withPhis(back, phiOf(1, [2]int{1, 0}))), []int{3}, []int{1}, [3]int{1, 1, 0}),
		plainCaseOf("to a block with phis, and from there to one without", progOf(3, blockOf(graphTo(1), read), withPhis(blockOf(graphTo(2)), one(1, 0)), back), []int{3}, []int{1}, [3]int{0, 1, 0}),
		plainCaseOf("a phi of a phi", progOf(3, blockOf(graphTo(1), read), withPhis(blockOf(graphTo(2)), one(2, 0)), withPhis(back, phiOf(1, [2]int{1, 2}))), []int{3}, []int{1, 2}, [3]int{0, 2, 0}, [3]int{1, 1, 2}),
		plainCaseOf("two ways that are one and the same block", progOf(2, blockOf(termBranch(0, 1, 1), read), withPhis(back, one(1, 0))), []int{4}, []int{1}, [3]int{0, 1, 0}),
		plainCaseOf("two ways that are one and the same block, which others come to, too",
			progOf(4, blockOf(termBranch(0, 1, 2), read, insRead(3)), blockOf(termBranch(3, 3, 3)), blockOf(graphTo(3), insOut(3)), withPhis(back, phiOf(1, [2]int{2, 0}, [2]int{1, 3}))), []int{4, 5}, []int{1}, [3]int{1, 1, 3}, [3]int{2, 1, 0}),
		plainCaseOf("two ways back to one block, by what a copy makes anew",
			progOf(3, blockOf(graphTo(1), read), withPhis(blockOf(graphTo(2), insRead(2)), phiOf(1, [2]int{0, 0}, [2]int{2, 2})), blockOf(termBranch(1, 1, 1), insOut(1))), []int{4, 0, 6}, []int{1}, [3]int{0, 1, 0}, [3]int{2, 1, 2}),
		plainCaseOf("two ways to the block itself", progOf(3, blockOf(graphTo(1), read), withPhis(blockOf(termBranch(1, 1, 1), insOut(1), insRead(2)), phiOf(1, [2]int{1, 2}, [2]int{0, 0}))), []int{4, 5, 0, 6}, []int{1}, [3]int{0, 1, 0}, [3]int{1, 1, 2}),
		plainCaseOf("a jump to the block itself, with a circle", progOf(4, blockOf(graphTo(1), read, insRead(1)), withPhis(blockOf(graphTo(1), insOut(2)), phiOf(2, [2]int{0, 0}, [2]int{1, 3}), phiOf(3, [2]int{1, 2}, [2]int{0, 1}))), []int{4, 5}, []int{2, 3, 4},
			[3]int{0, 2, 0}, [3]int{0, 3, 1}, [3]int{1, 4, 2}, [3]int{1, 2, 3}, [3]int{1, 3, 4}),
		plainCaseOf("a jump to the block itself, by itself", progOf(2, blockOf(graphTo(1), read), withPhis(blockOf(graphTo(1), insOut(1)), phiOf(1, [2]int{0, 0}, [2]int{1, 1}))), []int{4}, []int{1}, [3]int{0, 1, 0}),
		plainCaseOf("values that are nowhere made", progOf(20, blockOf(graphTo(1), read), withPhis(back, one(1, 0))), []int{7}, []int{1}, [3]int{0, 1, 0}),
		plainCaseOf("a phi that nobody takes", progOf(3, blockOf(graphTo(1), read, insRead(1)), withPhis(back, one(2, 0))), []int{7, 8}, []int{2}, [3]int{0, 2, 0}),
	}
}

func plainCases() []plainCase { return slices.Concat(plainOrdinary(), plainAtOnce(), plainEdges()) }

func wantPlain(t *testing.T, name string, f impl.Fn, want bool) {
	t.Helper()
	if got := impl.PlainOk(f); got != want {
		t.Errorf("%s: PlainOk is %t: %+v", name, got, f)
	}
}

func wantLower(t *testing.T, name string, f, want impl.Fn, wantOk bool) {
	t.Helper()
	got, ok := impl.Lower(f)
	if ok != wantOk || !fnSame(got, want) {
		t.Errorf("%s: Lower is %t and\n%+v, not %t and\n%+v", name, ok, got, wantOk, want)
	}
}

func wantTargets(t *testing.T, name string, f impl.Fn, want []int) {
	t.Helper()
	if got := impl.Targets(f); !slices.Equal(got, want) {
		t.Errorf("%s: Targets is %v, not %v: %+v", name, got, want, f)
	}
}

// plainPhis are the values that phis make, ascending.
func plainPhis(f impl.Fn) []int {
	list := []int{}
	for _, block := range f.Blocks {
		for _, p := range block.Phis {
			list = append(list, p.D)
		}
	}
	slices.Sort(list)
	return list
}

func lookPlain(t *testing.T, c plainCase) {
	t.Helper()
	wantWell(t, c.name, c.f)
	wantLower(t, c.name, c.f, c.plain, true)
	wantPlain(t, c.name, c.f, len(plainPhis(c.f)) == 0)
	wantPlain(t, c.name+": lowered", c.plain, true)
	wantTargets(t, c.name, c.f, nil)
	wantTargets(t, c.name+": lowered", c.plain, c.targets)
}

func TestPlainOrdinary(t *testing.T) {
	for _, c := range plainOrdinary() {
		lookPlain(t, c)
	}
}

func TestPlainAtOnce(t *testing.T) {
	for _, c := range plainAtOnce() {
		lookPlain(t, c)
	}
}

func TestPlainEdges(t *testing.T) {
	for _, c := range plainEdges() {
		lookPlain(t, c)
	}
}

// plainTells holds g, which is f lowered, against f: with one of fuel more for each copy on its way it does the same, with as
// much as f it tells the beginning.
func plainTells(t *testing.T, name string, f, g impl.Fn, reads []int) {
	t.Helper()
	for _, fuel := range smallRuns(f, reads) {
		told, how, end := impl.Run(f, reads, fuel)
		path := impl.Path(f, reads, fuel)
		if less, _, _ := impl.Run(g, reads, fuel); !isBeginning(less, told) {
			t.Errorf("%s, fuel %d, reads %v: %v is told, which does not begin %v: %+v", name, fuel, reads, less, told, f)
		}
		more := min(fuel, impl.MaxFuel)
		for _, b := range path[:len(path)-1] {
			more += len(g.Blocks[b].List) - len(f.Blocks[b].List)
		}
		if how == impl.RnFuel && more > impl.MaxFuel {
			continue // nobody is given that much
		}
		toldG, howG, endG := impl.Run(g, reads, more)
		if !slices.Equal(told, toldG) || how != howG || end != endG || !slices.Equal(impl.Path(g, reads, more), path) {
			t.Errorf("%s, fuel %d, reads %v: Run is %v, %d, %d, not %v, %d, %d: %+v", name, fuel, reads, toldG, howG, endG, told, how, end, f)
		}
	}
}

// plainPromise is promise 10 of one program that can be lowered.
func plainPromise(t *testing.T, name string, f impl.Fn, reads []int) {
	t.Helper()
	g, ok := impl.Lower(f)
	if !ok {
		t.Fatalf("%s: Lower is false: %+v", name, f)
	}
	wantPlain(t, name+": lowered", g, true)
	wantShape(t, true, g, name)
	if len(plainPhis(g)) > 0 || len(g.Blocks) != len(f.Blocks) || g.Values != f.Values+1 {
		t.Fatalf("%s: lowered it is %+v", name, g)
	}
	copied := []int{}
	for b, block := range g.Blocks {
		n := len(f.Blocks[b].List)
		if block.Term != f.Blocks[b].Term || !slices.Equal(block.List[:n], f.Blocks[b].List) {
			t.Errorf("%s: block %d became %+v", name, b, block)
		}
		for _, x := range block.List[n:] {
			if x.Op != impl.InCopy {
				t.Errorf("%s: in block %d is put %+v", name, b, x)
			}
			copied = append(copied, x.D)
		}
	}
	slices.Sort(copied)
	copied = slices.Compact(copied)
	wantTargets(t, name+": lowered", g, copied)
	if n := len(copied); n > 0 && copied[n-1] == f.Values {
		copied = copied[:n-1]
	}
	if !slices.Equal(copied, plainPhis(f)) {
		t.Errorf("%s: copies make %v, phis %v", name, copied, plainPhis(f))
	}
	plainTells(t, name, f, g, reads)
}

// Promise 10: lowered a program has no phi, and a copy for each that was.
func TestPlainPromise(t *testing.T) {
	for _, c := range plainCases() {
		for _, reads := range [][]int{c.reads, nil, {0}, {1, 1, 1}, {2, -1, 0, 4}, {7, 3, 5, 1}} {
			plainPromise(t, c.name, c.f, reads)
		}
	}
}

// A program with a critical edge is refused till it is split; the passes go one behind the other.
func TestPlainBehindSplit(t *testing.T) {
	seen := 0
	for _, c := range slices.Concat(edgeCases(), []edgeCase{{name: "a comb", f: edgeComb(0, 7, 6), reads: []int{0, 3}}}) {
		critical := len(criticalModel(c.f)) > 0
		if critical {
			seen++
			plainRefused(t, c.name, c.f)
		}
		g, ok := impl.Split(c.f)
		if !ok {
			t.Fatalf("%s: Split is false", c.name)
		}
		plainModel(t, c.name+": split", g)
		for _, reads := range [][]int{c.reads, nil, {0, 0, 7}, {8, 0, 6, 0, 5}} {
			plainPromise(t, c.name+": split", g, reads)
		}
		small, _ := impl.Split(impl.Prune(impl.Fold(c.f)))
		plainModel(t, c.name+": smaller and split", small)
		plainPromise(t, c.name+": smaller and split", small, c.reads)
	}
	if seen < 15 {
		t.Error(seen)
	}
}

// lowerModel goes by the words: for each block that ends with one way the moves of all phis there, and their row.
func lowerModel(f impl.Fn) (impl.Fn, bool) {
	copies := [][3]int{}
	for b, block := range f.Blocks {
		end := block.Term
		if end.Kind == impl.TmBack || end.Kind == impl.TmBranch && end.To != end.Else {
			continue
		}
		moves := []impl.Move{}
		for _, p := range f.Blocks[end.To].Phis {
			at := slices.IndexFunc(p.Arms, func(a impl.Arm) bool { return a.From == b })
			moves = append(moves, impl.Move{D: p.D, S: p.Arms[at].V})
		}
		for _, x := range sequenceModel(moves, f.Values) {
			copies = append(copies, [3]int{b, x.D, x.S})
		}
	}
	g := plainBy(f, copies...)
	ok := g.Values <= impl.MaxValues
	for _, block := range g.Blocks {
		ok = ok && len(block.List) <= impl.MaxList
	}
	if !ok {
		return impl.Fn{}, false
	}
	return g, true
}

func targetsModel(f impl.Fn) []int {
	list := []int{}
	for v := range f.Values {
		for _, block := range f.Blocks {
			if slices.ContainsFunc(block.List, func(x impl.Ins) bool { return x.Op == impl.InCopy && x.D == v }) {
				list = append(list, v)
				break
			}
		}
	}
	return list
}

// plainModel holds a program that is well, and has no critical edge, against the model; it tells whether there was room.
func plainModel(t *testing.T, name string, f impl.Fn) bool {
	t.Helper()
	want, room := lowerModel(f)
	wantLower(t, name, f, want, room)
	wantPlain(t, name, f, len(plainPhis(f)) == 0)
	wantTargets(t, name, f, nil)
	if room {
		wantPlain(t, name+": lowered", want, true)
		wantTargets(t, name+": lowered", want, targetsModel(want))
	}
	return room
}

func TestPlainModelOfCases(t *testing.T) {
	for _, c := range plainCases() {
		want, _ := lowerModel(c.f)
		wantFn(t, c.name+": the model", want, c.plain)
		if got := targetsModel(c.plain); !slices.Equal(got, c.targets) {
			t.Errorf("%s: the model tells %v, not %v", c.name, got, c.targets)
		}
		plainModel(t, c.name, c.f)
	}
}

func TestPlainDrawnPrograms(t *testing.T) {
	d := &drawer{x: 10}
	seen, copies, refused := 0, 0, 0
	var ends [3]int
	wellDrawn(10, 150, func(f impl.Fn) {
		if len(criticalModel(f)) > 0 {
			refused++
			plainRefused(t, "drawn", f)
		}
		g, ok := impl.Split(f)
		if !ok || !plainModel(t, "drawn", g) {
			return
		}
		seen++
		p, _ := impl.Lower(g)
		copies += impl.Cost(p) - impl.Cost(g) + len(plainPhis(g))
		reads := runReads(d)
		plainPromise(t, "drawn", g, reads)
		_, how, _ := impl.Run(g, reads, 300)
		ends[how]++
	})
	if seen < 800 || copies < 2000 || refused < 500 || slices.Min(ends[:]) < 50 {
		t.Error(seen, copies, refused, ends)
	}
}

// plainMoves has a loop that does these moves of n places on its way back: who is no D has a value that stays.
func plainMoves(list []impl.Move, n int) impl.Fn {
	first, head := blockOf(graphTo(1)), blockOf(termBranch(2*n, 2, 3), insRead(2*n))
	for i := range n {
		first.List = append(first.List, insConst(i, 100+i))
	}
	held := func(place int) int {
		if slices.ContainsFunc(list, func(x impl.Move) bool { return x.D == place }) {
			return n + place
		}
		return place
	}
	for _, x := range list {
		head.Phis = append(head.Phis, phiOf(n+x.D, [2]int{2, held(x.S)}, [2]int{0, x.D}))
		head.List = append(head.List, insOut(n+x.D))
	}
	return progOf(2*n+1, first, head, blockOf(graphTo(1)), blockOf(termBack(held(0))))
}

// The copies on the way back are the row of the moves, whatever these are.
func TestPlainDrawnMoves(t *testing.T) {
	d := &drawer{x: 100}
	circles := 0
	for range 600 {
		n := 1 + d.draw(12)
		list := movesDrawn(d, n)
		f := plainMoves(list, n)
		wantWell(t, "drawn moves", f)
		plainModel(t, "drawn moves", f)
		plainPromise(t, "drawn moves", f, []int{1, 1, 1, 0})
		g, _ := impl.Lower(f)
		circles += flag(slices.Contains(impl.Targets(g), f.Values))
	}
	if circles < 100 {
		t.Error(circles)
	}
}

// plainFull has so many places in block 1, and phis behind it.
func plainFull(places, phis int) impl.Fn {
	f := progOf(1+phis, blockOf(graphTo(1), insRead(0)), blockOf(graphTo(2)), blockOf(termBack(0)))
	for range places {
		addPlace(&f, 1, insOut(0))
	}
	for i := range phis {
		f.Blocks[2].Phis = append(f.Blocks[2].Phis, phiOf(1+i, [2]int{1, 0}))
		addPlace(&f, 2, insOut(1+i))
	}
	return f
}

// Limits: a list that is just full with its copies is accepted, one more is refused.
func TestPlainLimitsOfLists(t *testing.T) {
	var seen [2]int
	for phis := range impl.MaxList + 1 {
		for places := range impl.MaxList + 1 {
			f := plainFull(places, phis)
			wantWell(t, "a full list", f)
			room := plainModel(t, "a full list", f)
			switch places + phis {
			case impl.MaxList:
				seen[0]++
				plainPromise(t, "just full", f, []int{3})
			case impl.MaxList + 1:
				seen[1]++
				wantLower(t, "one too many", f, impl.Fn{}, false)
			}
			if room != (places+phis <= impl.MaxList) {
				t.Errorf("%d places and %d copies: Lower is %t", places, phis, room)
			}
		}
	}
	if seen != [2]int{25, 24} {
		t.Error(seen)
	}
	plainRefused(t, "a phi too many", plainFull(0, impl.MaxList+1))
	plainRefused(t, "a place too many", plainFull(impl.MaxList+1, 0))
}

// A circle takes one copy more than there are phis, and a phi that is its own arm none.
func TestPlainLimitsOfCircles(t *testing.T) {
	for _, c := range []struct {
		name   string
		list   []impl.Move
		copies int
	}{
		{"a circle of two", moveRound(0, 2), 3},
		{"a circle of seven", moveRound(0, 7), 8},
		{"two circles", slices.Concat(moveRound(0, 3), moveRound(3, 5)), 10},
		{"a row", movesOf([2]int{0, 1}, [2]int{1, 2}, [2]int{2, 3}), 3},
		{"each its own arm", movesOf([2]int{0, 0}, [2]int{1, 1}, [2]int{2, 2}), 0},
		{"a circle, and two that are their own arms", movesOf([2]int{0, 1}, [2]int{3, 3}, [2]int{1, 0}, [2]int{2, 2}), 3},
	} {
		f := plainMoves(c.list, 8)
		for range impl.MaxList - c.copies {
			addPlace(&f, 2, insOut(0))
		}
		wantWell(t, c.name, f)
		if !plainModel(t, c.name+": just full", f) {
			t.Errorf("%s: just full it is refused", c.name)
		}
		plainPromise(t, c.name+": just full", f, []int{1, 1, 0})
		addPlace(&f, 2, insOut(0))
		if len(f.Blocks[2].List) > impl.MaxList {
			plainRefused(t, c.name+": one too many", f)
			continue
		}
		wantWell(t, c.name+": one too many", f)
		wantLower(t, c.name+": one too many", f, impl.Fn{}, false)
	}
}

// plainGreatRing has a loop with so many phis in one circle, and no other place in the blocks that come to them.
func plainGreatRing(phis int) impl.Fn {
	head := blockOf(termBranch(1+phis, 3, 4), insRead(1+phis), insOut(1))
	for i := range phis {
		head.Phis = append(head.Phis, phiOf(1+i, [2]int{1, 0}, [2]int{3, 1 + (i+1)%phis}))
	}
	return progOf(2+phis, blockOf(graphTo(1), insRead(0)), blockOf(graphTo(2)), head, blockOf(graphTo(2)), blockOf(termBack(phis)))
}

// A circle of as many phis as there may be has no room for the one copy more, even without another place.
func TestPlainLimitsOfGreatCircles(t *testing.T) {
	f := plainGreatRing(impl.MaxList - 1)
	wantWell(t, "the greatest circle but one", f)
	if !plainModel(t, "the greatest circle but one", f) {
		t.Error("the greatest circle but one is refused")
	}
	plainPromise(t, "the greatest circle but one", f, []int{5, 1, 1, 0})
	f = plainGreatRing(impl.MaxList)
	wantWell(t, "the greatest circle", f)
	wantLower(t, "the greatest circle", f, impl.Fn{}, false)
	f.Blocks[2].Phis[7].Arms[1].V = 0
	wantWell(t, "the greatest row", f)
	plainPromise(t, "the greatest row", f, []int{5, 1, 1, 0})
}

// It is all the same which of the lists is too long.
func TestPlainLimitsInAnyBlock(t *testing.T) {
	for _, c := range slices.Concat(plainCases(), []plainCase{{name: "just MaxBlocks", f: edgeCombSplit()}}) {
		for b := range c.f.Blocks {
			f := fnCopy(c.f)
			addPlace(&f, 0, insRead(f.Values))
			f.Values++
			for p, _ := lowerModel(f); len(p.Blocks[b].List) < impl.MaxList; p, _ = lowerModel(f) {
				addPlace(&f, b, insOut(f.Values-1))
			}
			wantWell(t, c.name, f)
			if !plainModel(t, c.name+": just full", f) {
				t.Errorf("%s: block %d is just full, and refused", c.name, b)
			}
			addPlace(&f, b, insOut(f.Values-1))
			wantLower(t, c.name+": one too many", f, impl.Fn{}, false)
		}
	}
}

// edgeCombSplit has MaxBlocks blocks, most of them but a jump.
func edgeCombSplit() impl.Fn { return splitModel(edgeComb(0, 7, 3)) }

// Limits: one value less than MaxValues is accepted, as there is one more behind it; MaxValues is refused, with and without phis.
func TestPlainLimitsOfValues(t *testing.T) {
	for _, c := range plainCases() {
		f := fnCopy(c.f)
		for _, values := range []int{impl.MaxValues - 2, impl.MaxValues - 1} {
			f.Values = values
			wantWell(t, c.name, f)
			if !plainModel(t, c.name+": many values", f) {
				t.Errorf("%s: Lower of %d values is false", c.name, values)
			}
			plainPromise(t, c.name+": many values", f, c.reads)
		}
		f.Values = impl.MaxValues
		wantWell(t, c.name, f)
		wantLower(t, c.name+": MaxValues", f, impl.Fn{}, false)
		wantPlain(t, c.name+": MaxValues", f, len(plainPhis(f)) == 0)
		f.Values = impl.MaxValues + 1
		plainRefused(t, c.name+": a value too many", f)
	}
	last := progOf(impl.MaxValues-1, blockOf(graphTo(1), insRead(0)), withPhis(blockOf(termBack(78)), phiOf(78, [2]int{0, 0})))
	wantLower(t, "the last value", last, plainBy(last, [3]int{0, 78, 0}), true)
	wantTargets(t, "the last value", plainBy(last, [3]int{0, 78, 0}), []int{78})
}

// plainRefused is what is answered of a program that can't be lowered by what it is.
func plainRefused(t *testing.T, name string, f impl.Fn) {
	t.Helper()
	shape := impl.ShapeOk(f)
	if impl.Check(f) == impl.CkWell && len(criticalModel(f)) == 0 {
		t.Fatalf("%s: nothing is wrong with %+v", name, f)
	}
	wantLower(t, name, f, impl.Fn{}, false)
	wantPlain(t, name, f, shape && len(plainPhis(f)) == 0)
	if shape {
		wantTargets(t, name, f, targetsModel(f))
	} else {
		wantTargets(t, name, f, nil)
	}
}

// plainSpoilt has room for every mistake, and no critical edge.
func plainSpoilt() impl.Fn { return splitModel(checkSpoilt()) }

// One program and more for each code of Check, and one for each two mistakes at once.
func TestPlainNotWell(t *testing.T) {
	plainModel(t, "room for every mistake", plainSpoilt())
	plainPromise(t, "room for every mistake", plainSpoilt(), []int{2})
	var seen [7]int
	list := checkSpoils()
	for i, a := range list {
		f := plainSpoilt()
		a.spoil(&f)
		if got := impl.Check(f); got != a.code {
			t.Errorf("%s: Check is %d, not %d", a.name, got, a.code)
		}
		seen[a.code]++
		plainRefused(t, a.name, f)
		for _, b := range list[i+1:] {
			g := fnCopy(f)
			b.spoil(&g)
			plainRefused(t, a.name+", "+b.name, g)
		}
	}
	if slices.Contains(seen[1:], 0) {
		t.Errorf("a code is missing: %v", seen)
	}
}

func TestPlainNotWellElsewhere(t *testing.T) {
	for _, c := range checkCases() {
		if c.want != impl.CkWell {
			plainRefused(t, c.name, c.f)
		}
	}
	for _, c := range edgeOdd() {
		plainRefused(t, c.name, c.f)
	}
	plainRefused(t, "every kind of place", fnFull())
	wantTargets(t, "every kind of place", fnFull(), []int{15})
}

// A block that is not reached is refused, whatever it has; without phis it is plain.
func TestPlainNotReached(t *testing.T) {
	for _, c := range plainCases() {
		for _, more := range []impl.Block{
			blockOf(graphTo(len(c.f.Blocks))),
			blockOf(graphTo(len(c.f.Blocks) - 1)),
			withPhis(blockOf(graphTo(len(c.f.Blocks))), impl.Phi{D: 0, Arms: []impl.Arm{{From: len(c.f.Blocks), V: 0}}}),
		} {
			f := fnCopy(c.f)
			f.Values = max(f.Values, 1)
			f.Blocks = append(f.Blocks, more)
			if got := impl.Check(f); got != impl.CkDead {
				t.Errorf("%s: Check is %d", c.name, got)
			}
			plainRefused(t, c.name+": a block is not reached", f)
			wantPlain(t, c.name+": a block is not reached", f, len(plainPhis(f)) == 0)
		}
	}
}

func plainNoShape() []impl.Fn {
	list := append(graphSpoiled(), impl.Fn{Values: math.MinInt}, impl.Fn{Values: math.MaxInt, Blocks: make([]impl.Block, 2)})
	for _, op := range fnOpsNone {
		f := plainSpoilt()
		addPlace(&f, 3, impl.Ins{Op: op})
		g, _ := impl.Lower(plainSpoilt())
		addPlace(&g, 3, impl.Ins{Op: op})
		list = append(list, f, g)
	}
	for _, kind := range fnKindsNone {
		g, _ := impl.Lower(plainSpoilt())
		g.Blocks[5].Term.Kind = kind
		list = append(list, g)
	}
	for _, v := range append([]int{13}, fnFar...) {
		f := plainSpoilt()
		f.Blocks[5].Phis[0].Arms[1].V = v
		g, _ := impl.Lower(plainSpoilt())
		addPlace(&g, 5, insCopy(v, 0))
		h, _ := impl.Lower(plainSpoilt())
		addPlace(&h, 5, insCopy(0, v))
		list = append(list, f, g, h)
	}
	return list
}

func TestPlainNotShapeOk(t *testing.T) {
	for _, f := range plainNoShape() {
		wantShape(t, false, f)
		plainRefused(t, "not ShapeOk", f)
		wantPlain(t, "not ShapeOk", f, false)
	}
}

func TestPlainNotWellDrawn(t *testing.T) {
	d := &drawer{x: 1010}
	var seen [7]int
	wellDrawn(101, 60, func(f impl.Fn) {
		f = splitModel(f)
		if len(f.Blocks) > impl.MaxBlocks {
			return
		}
		for range 6 {
			g := fnCopy(f)
			checkChange(d, g)
			code := impl.Check(g)
			seen[code]++
			if code == impl.CkWell && len(criticalModel(g)) == 0 {
				plainModel(t, "changed", g)
			} else {
				plainRefused(t, "changed", g)
			}
		}
	})
	for code, n := range seen {
		if n < 20 {
			t.Errorf("only %d programs of code %d: %v", n, code, seen)
		}
	}
}

// What is plain is asked of the shape and of phis alone: values may be made many times, and taken nowhere made.
func TestPlainOkOfAnyProgram(t *testing.T) {
	many := progOf(2, blockOf(graphTo(0), insRead(1), insRead(1), insCopy(1, 1), insConst(1, 4)), blockOf(termBack(0), insCopy(1, 0)))
	for _, c := range []struct {
		name string
		f    impl.Fn
		want bool
	}{
		{"none", impl.Fn{}, false},
		{"a value made many times", many, true},
		{"one place", oneBlock(1, 0, insCopy(0, 0)), true},
		{"no value", progOf(0, blockOf(graphTo(0))), true},
		{"a value too few", progOf(0, blockOf(termBack(0))), false},
		{"lists of phis that are empty", progOf(1, withPhis(blockOf(termBack(0)), []impl.Phi{}...), impl.Block{Phis: make([]impl.Phi, 0, 3), Term: graphTo(0)}), true},
		{"a phi without an arm", progOf(1, withPhis(blockOf(termBack(0)), phiOf(0))), false},
		{"a phi in a block that is not reached", progOf(1, blockOf(termBack(0)), withPhis(blockOf(graphTo(1)), phiOf(0))), false},
		{"a phi in the last block", progOf(1, blockOf(graphTo(1)), withPhis(blockOf(termBack(0)), phiOf(0, [2]int{0, 0}))), false},
		{"as many values as there may be", progOf(impl.MaxValues, blockOf(termBack(79))), true},
		{"a value too many", progOf(impl.MaxValues+1, blockOf(termBack(79))), false},
		{"as many blocks as there may be", fnOf(1, impl.MaxBlocks), true},
		{"a block too many", fnOf(1, impl.MaxBlocks+1), false},
		{"a list that is just full", fnOf(1, 2, slices.Repeat([]impl.Ins{insCopy(0, 0)}, impl.MaxList)...), true},
		{"a list with one too many", fnOf(1, 2, slices.Repeat([]impl.Ins{insCopy(0, 0)}, impl.MaxList+1)...), false},
	} {
		wantPlain(t, c.name, c.f, c.want)
	}
	for n := 1; n <= 3; n++ {
		graphEach(n, func(f impl.Fn) {
			for bits := range 1 << n {
				wantPlain(t, "small", edgeWithPhis(f, bits), bits == 0)
			}
		})
	}
	graphDrawn(func(f impl.Fn) { wantPlain(t, "drawn", f, true) })
}

// What is plain already is lowered where it has no InCopy, and no more than its Values change.
func TestPlainLowerOfPlain(t *testing.T) {
	for _, c := range plainCases() {
		if len(plainPhis(c.f)) == 0 {
			wantLower(t, c.name+": again", c.plain, plainBy(c.plain), true)
			continue
		}
		plainRefused(t, c.name+": again", c.plain)
		if got := impl.Check(c.plain); got != impl.CkShape {
			t.Errorf("%s: lowered Check is %d", c.name, got)
		}
	}
}

func TestPlainTargets(t *testing.T) {
	full := fnOf(impl.MaxValues, impl.MaxBlocks)
	all := []int{}
	for v := range impl.MaxValues {
		all = append(all, v)
		addPlace(&full, v%impl.MaxBlocks, insCopy(impl.MaxValues-1-v, 0))
		addPlace(&full, v*7%impl.MaxBlocks, insCopy(v, 0))
	}
	loop, join := checkLoop(), checkJoin()
	addPlace(&loop, 3, insCopy(3, 0))
	addPlace(&loop, 2, insCopy(0, 4))
	addPlace(&join, 0, insCopy(3, 0))
	for _, c := range []struct {
		name string
		f    impl.Fn
		want []int
	}{
		{"none", oneBlock(2, 0, insRead(0), insConst(1, 5)), nil},
		{"no place at all", progOf(1, blockOf(termBack(0))), nil},
		{"made many times, each told once, ascending", progOf(9,
			blockOf(graphTo(1), insCopy(7, 1), insCopy(2, 7), insCopy(7, 2), insRead(5)),
			blockOf(termBranch(0, 0, 1), insCopy(8, 1), insCopy(2, 0), insCopy(0, 0), insCopy(7, 3))), []int{0, 2, 7, 8}},
		{"made by others, too", oneBlock(3, 0, insRead(1), insCopy(1, 0), insConst(2, 1), insAdd(1, 1, 1)), []int{1}},
		{"a value to itself", oneBlock(3, 0, insCopy(2, 2)), []int{2}},
		{"what is taken is not told", oneBlock(3, 0, insCopy(0, 2)), []int{0}},
		{"in a block that is not reached", progOf(3, blockOf(termBack(0)), blockOf(graphTo(1), insCopy(1, 0))), []int{1}},
		{"all values", full, all},
		{"with phis", loop, []int{0, 3}},
		{"with phis of the same value", join, []int{3}},
		{"with phis alone", checkNest(), nil},
		{"as if others were copies", progOf(26, blockOf(termBack(25), insConst(25, 25), insOp(impl.OpAdd, 24, 25, 25), insLoad(23, 25), insStore(25, 25), insOut(25), insRead(22))), nil},
	} {
		wantShape(t, true, c.f, c.name)
		wantTargets(t, c.name, c.f, c.want)
		if got := targetsModel(c.f); !slices.Equal(got, c.want) {
			t.Errorf("%s: the model tells %v, not %v", c.name, got, c.want)
		}
		over := fnCopy(c.f)
		over.Values = impl.MaxValues + 1
		wantTargets(t, c.name+": not ShapeOk", over, nil)
	}
}

// plainAnyPrograms are programs of all kinds, those that are lowered among them.
func plainAnyPrograms() []plainCase {
	list := plainCases()
	for _, c := range plainCases() {
		list = append(list, plainCase{name: c.name + ": lowered", f: c.plain})
	}
	for _, c := range edgeAnyPrograms() {
		list = append(list, plainCase{name: c.name, f: c.f})
	}
	for _, c := range checkSpoils() {
		f := plainSpoilt()
		c.spoil(&f)
		list = append(list, plainCase{name: c.name, f: f})
	}
	for _, f := range plainNoShape() {
		list = append(list, plainCase{name: "not ShapeOk", f: f})
	}
	return append(list,
		plainCase{name: "just full", f: plainFull(10, 14)},
		plainCase{name: "one too many", f: plainFull(10, 15)})
}

// Promise 21: neither a program nor the spare room behind it is written into, none of it counts, and no answer shares memory with it.
func TestPlainWritesIntoNothing(t *testing.T) {
	for _, c := range plainAnyPrograms() {
		f := fnRoomy(c.f)
		before := fnCopy(fnWhole(f))
		plain, targets := impl.PlainOk(f), impl.Targets(f)
		g, ok := impl.Lower(f)
		wantPlain(t, c.name+" with room", c.f, plain)
		wantTargets(t, c.name+" with room", c.f, targets)
		wantLower(t, c.name+" with room", c.f, g, ok)
		again, _ := impl.Lower(f)
		wantApart(t, c.name, f, g, again)
		if !reflect.DeepEqual(fnWhole(f), before) {
			t.Errorf("%s: an argument was written into", c.name)
		}
	}
}

// What is answered hangs on the arguments alone: not on a map that is gone through in another order each time.
func TestPlainSameEachTime(t *testing.T) {
	for _, c := range plainCases() {
		for range 20 {
			lookPlain(t, c)
		}
	}
	d := &drawer{x: 1000}
	for range 30 {
		f := plainMoves(movesDrawn(d, 12), 12)
		want, _ := impl.Lower(f)
		targets := impl.Targets(want)
		for range 30 {
			wantLower(t, "again", f, want, true)
			wantTargets(t, "again", want, targets)
		}
	}
}

// Lists that share memory with each other in the argument are apart in the answer, and so are the copies behind each.
func TestPlainAnswersAreApart(t *testing.T) {
	arms := []impl.Arm{{From: 1, V: 0}, {From: 2, V: 0}}
	list := []impl.Ins{insOut(0), insOut(0), insOut(0), insOut(0), insOut(0)}
	f := progOf(4,
		blockOf(termBranch(0, 1, 2), insRead(0)),
		impl.Block{List: list[:2], Term: graphTo(3)},
		impl.Block{List: list[:3], Term: graphTo(3)},
		impl.Block{Phis: []impl.Phi{{D: 1, Arms: arms}, {D: 2, Arms: arms}}, List: list[1:4], Term: termBack(2)})
	lookPlain(t, plainCaseOf("shared lists", f, nil, []int{1, 2}, [3]int{1, 1, 0}, [3]int{1, 2, 0}, [3]int{2, 1, 0}, [3]int{2, 2, 0}))
	plainPromise(t, "shared lists", f, []int{5})
	g, _ := impl.Lower(f)
	wantApart(t, "shared lists", g)
	plainScribble(g)
	for i, x := range list {
		if x != insOut(0) {
			t.Errorf("place %d became %+v", i, x)
		}
	}
}

// plainScribble writes over all that a program has, and over all the room behind its lists.
func plainScribble(f impl.Fn) {
	for b := range f.Blocks {
		list := f.Blocks[b].List
		clear(list[:cap(list)])
		f.Blocks[b].Term = impl.Term{}
	}
}

func TestPlainAnswersAreNew(t *testing.T) {
	for _, c := range plainCases() {
		fnScribble(impl.Targets(c.plain))
		g, _ := impl.Lower(c.f)
		plainScribble(g)
		lookPlain(t, c)
	}
}
