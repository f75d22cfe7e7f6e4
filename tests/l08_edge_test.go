package tests

import (
	"math"
	"reflect"
	"slices"
	"testing"

	"loop.example/g00192/impl"
)

// An edgeCase is a program that is well, its critical edges, and what it is when it is split.
type edgeCase struct {
	name     string
	f        impl.Fn
	reads    []int
	critical []impl.Edge
	split    impl.Fn
}

// edgeNone is a case without a critical edge: split it is as it was.
func edgeNone(name string, f impl.Fn, reads ...int) edgeCase {
	return edgeCase{name, f, reads, nil, f}
}

func edgesOf(pairs ...[2]int) []impl.Edge {
	list := []impl.Edge{}
	for _, p := range pairs {
		list = append(list, impl.Edge{From: p[0], To: p[1]})
	}
	return list
}

// edgeNestSplit is checkNest behind Split.
func edgeNestSplit() impl.Fn {
	f := checkNest()
	f.Blocks[1].Term.To = 6
	f.Blocks[2].Phis = []impl.Phi{phiOf(3, [2]int{6, 2}, [2]int{3, 4})}
	f.Blocks = append(f.Blocks, blockOf(graphTo(2)))
	return f
}

// edgeUntil counts down in one block that goes back to itself.
func edgeUntil(back int, from int, more ...impl.Block) impl.Fn {
	return progOf(6, append([]impl.Block{
		blockOf(graphTo(1), insRead(0), insConst(1, -1), insConst(2, 0)),
		withPhis(blockOf(termBranch(5, back, 2), insOut(3), insAdd(5, 3, 1)), phiOf(3, [2]int{from, 5}, [2]int{0, 0}), phiOf(4, [2]int{0, 2}, [2]int{from, 3})),
		blockOf(termBack(4))}, more...)...)
}

func edgeOrdinary() []edgeCase {
	short := func(end impl.Term, from int, more ...impl.Block) impl.Fn {
		return progOf(4, append([]impl.Block{
			blockOf(end, insRead(0), insRead(1)),
			blockOf(graphTo(2), insAdd(2, 1, 1)),
			withPhis(blockOf(termBack(3)), phiOf(3, [2]int{from, 0}, [2]int{1, 2}))}, more...)...)
	}
	cells := func(other int, more ...impl.Block) impl.Fn {
		return progOf(4, append([]impl.Block{
			blockOf(termBranch(1, 1, other), insConst(0, 3), insRead(1), insStore(0, 1)),
			blockOf(graphTo(2), insConst(2, 7), insStore(0, 2)),
			blockOf(termBack(3), insLoad(3, 0), insOut(3))}, more...)...)
	}
	echo := func(to int, more ...impl.Block) impl.Fn {
		return progOf(2, append([]impl.Block{
			blockOf(graphTo(1), insConst(1, 9)),
			blockOf(termBranch(0, to, 2), insRead(0), insOut(0)),
			blockOf(termBack(1))}, more...)...)
	}
	return []edgeCase{
		edgeNone("straight on", checkStraight(), 5),
		edgeNone("a branch that joins with a phi, To", checkJoin(), 4),
		edgeNone("a branch that joins with a phi, Else", checkJoin(), 0),
		{"a branch whose Else goes straight to where both join", short(termBranch(0, 1, 2), 0), []int{3, 7}, edgesOf([2]int{0, 2}),
			short(termBranch(0, 1, 3), 3, blockOf(graphTo(2)))},
		{"a branch whose To goes straight to where both join", short(termBranch(0, 2, 1), 0), []int{3, 7}, edgesOf([2]int{0, 2}),
			short(termBranch(0, 3, 1), 3, blockOf(graphTo(2)))},
		edgeNone("a loop", checkLoop()),
		edgeNone("a loop whose phis take each other", runFib(), 5),
		{"a loop of one block, with phis", edgeUntil(1, 1), []int{4}, edgesOf([2]int{1, 1}), edgeUntil(3, 3, blockOf(graphTo(1)))},
		{"a loop in a loop", checkNest(), []int{2}, edgesOf([2]int{1, 2}), edgeNestSplit()},
		edgeNone("stores and loads straight on", progOf(4, blockOf(graphTo(1), insConst(0, 3), insRead(1), insStore(0, 1)), blockOf(termBack(3), insLoad(2, 0), insOut(2), insAdd(3, 2, 2))), 11),
		{"stores and loads", cells(2), []int{5}, edgesOf([2]int{0, 2}), cells(3, blockOf(graphTo(2)))},
		edgeNone("reads and tells", runEcho(), 3, -2, 8),
		{"reads and tells in one block", echo(1), []int{3, -2, 0, 8}, edgesOf([2]int{1, 1}), echo(3, blockOf(graphTo(1)))},
	}
}

// edgePhis are the edges of who has how many Preds, and phis.
func edgePhis() []edgeCase {
	fork := func(end impl.Term, a, b impl.Block, more ...impl.Block) impl.Fn {
		return progOf(4, append([]impl.Block{blockOf(end, insRead(0), insRead(1)), a, b}, more...)...)
	}
	plain := blockOf(termBack(1), insOut(0))
	one := func(d, from int) impl.Block { return withPhis(blockOf(termBack(d)), phiOf(d, [2]int{from, 1})) }
	same := func(to int, from int, more ...impl.Block) impl.Fn {
		return progOf(4, append([]impl.Block{
			blockOf(termBranch(0, 1, to), insRead(0), insRead(1)),
			blockOf(termBranch(1, 2, 2), insOut(1)),
			withPhis(blockOf(termBack(2)), phiOf(2, [2]int{1, 1}, [2]int{from, 0}))}, more...)...)
	}
	return []edgeCase{
		edgeNone("one block alone", oneBlock(1, 0, insRead(0)), 4),
		edgeNone("To with one of Preds and no phi", fork(termBranch(0, 1, 2), plain, plain), 4, 5),
		edgeNone("both ways of a branch go to one block", progOf(1, blockOf(termBranch(0, 1, 1), insRead(0)), blockOf(termBack(0))), 4),
		edgeNone("both ways of a branch go to one block with a phi", progOf(2, blockOf(termBranch(0, 1, 1), insRead(0)), withPhis(blockOf(termBack(1)), phiOf(1, [2]int{0, 0}))), 4),
		edgeNone("both ways of a branch go back to one block with a phi", progOf(3, blockOf(graphTo(1), insRead(0)), withPhis(blockOf(graphTo(2), insRead(2)), phiOf(1, [2]int{0, 0}, [2]int{2, 2})), blockOf(termBranch(1, 1, 1), insOut(1))), 4, 5, 6),
		edgeNone("both ways of a branch go to the block itself", progOf(2, blockOf(graphTo(1), insRead(0)), withPhis(blockOf(termBranch(1, 1, 1)), phiOf(1, [2]int{0, 0}, [2]int{1, 1}))), 4),
		edgeNone("a jump to a block with phis that jumps to itself", progOf(2, blockOf(graphTo(1), insRead(0)), withPhis(blockOf(graphTo(1)), phiOf(1, [2]int{0, 0}, [2]int{1, 1}))), 4),
		{"a branch both of whose ways go to where another one goes, too", same(2, 0), []int{0, 8}, edgesOf([2]int{0, 2}), same(3, 3, blockOf(graphTo(2)))},
		{"a phi with one arm, To", fork(termBranch(0, 1, 2), one(2, 0), plain), []int{4, 5}, edgesOf([2]int{0, 1}),
			fork(termBranch(0, 3, 2), one(2, 3), plain, blockOf(graphTo(1)))},
		{"a phi with one arm, Else", fork(termBranch(0, 1, 2), plain, one(2, 0)), []int{0, 5}, edgesOf([2]int{0, 2}),
			fork(termBranch(0, 1, 3), plain, one(2, 3), blockOf(graphTo(2)))},
		{"phis with one arm both ways", fork(termBranch(0, 1, 2), one(2, 0), one(3, 0)), []int{4, 5}, edgesOf([2]int{0, 1}, [2]int{0, 2}),
			fork(termBranch(0, 3, 4), one(2, 3), one(3, 4), blockOf(graphTo(1)), blockOf(graphTo(2)))},
		{"phis with one arm both ways, the greater block first", fork(termBranch(0, 2, 1), one(2, 0), one(3, 0)), []int{0, 5}, edgesOf([2]int{0, 2}, [2]int{0, 1}),
			fork(termBranch(0, 3, 4), one(2, 4), one(3, 3), blockOf(graphTo(2)), blockOf(graphTo(1)))},
	}
}

// edgeBack are the edges that go back.
func edgeBack() []edgeCase {
	ahead := func(end impl.Term, from int, more ...impl.Block) impl.Fn {
		return progOf(5, append([]impl.Block{
			blockOf(graphTo(1), insRead(0), insConst(1, -1)),
			withPhis(blockOf(graphTo(2), insOut(2)), phiOf(2, [2]int{0, 0}, [2]int{from, 3})),
			blockOf(end, insAdd(3, 2, 1)),
			blockOf(termBack(2))}, more...)...)
	}
	bare := func(end impl.Term, more ...impl.Block) impl.Fn {
		return progOf(1, append([]impl.Block{blockOf(graphTo(3)), blockOf(end, insRead(0)), blockOf(termBack(0)), blockOf(graphTo(1))}, more...)...)
	}
	both := func(end impl.Term, first, itself int, more ...impl.Block) impl.Fn {
		return progOf(6, append([]impl.Block{
			blockOf(graphTo(1), insRead(0)),
			withPhis(blockOf(graphTo(2), insOut(1)), phiOf(1, [2]int{0, 0}, [2]int{first, 4})),
			withPhis(blockOf(end, insRead(4), insOut(2)), phiOf(2, [2]int{itself, 4}, [2]int{1, 1}), phiOf(3, [2]int{1, 0}, [2]int{itself, 3}))}, more...)...)
	}
	return []edgeCase{
		{"back to a block ahead, To", ahead(termBranch(3, 1, 3), 2), []int{3}, edgesOf([2]int{2, 1}), ahead(termBranch(3, 4, 3), 4, blockOf(graphTo(1)))},
		{"back to a block ahead, Else", ahead(termBranch(3, 3, 1), 2), []int{1}, edgesOf([2]int{2, 1}), ahead(termBranch(3, 3, 4), 4, blockOf(graphTo(1)))},
		{"back to a block ahead without phis", bare(termBranch(0, 3, 2)), []int{3, 1, 0}, edgesOf([2]int{1, 3}), bare(termBranch(0, 4, 2), blockOf(graphTo(3)))},
		{"back to the block itself without phis", bare(termBranch(0, 2, 1)), []int{0, 0, 5}, edgesOf([2]int{1, 1}), bare(termBranch(0, 2, 4), blockOf(graphTo(1)))},
		{"back to a block ahead, and to the block itself", both(termBranch(4, 1, 2), 2, 2), []int{8, 0, 7, 0, 0, 6}, edgesOf([2]int{2, 1}, [2]int{2, 2}),
			both(termBranch(4, 3, 4), 3, 4, blockOf(graphTo(1)), blockOf(graphTo(2)))},
		{"back to the block itself, and to a block ahead", both(termBranch(4, 2, 1), 2, 2), []int{8, 0, 7, 0, 0, 6}, edgesOf([2]int{2, 2}, [2]int{2, 1}),
			both(termBranch(4, 3, 4), 4, 3, blockOf(graphTo(2)), blockOf(graphTo(1)))},
	}
}

// edgeMany are programs of several critical edges.
func edgeMany() []edgeCase {
	row := func(to [3]int, from [3]int, more ...impl.Block) impl.Fn {
		return progOf(6, append([]impl.Block{
			blockOf(termBranch(0, to[0], 1), insRead(0)),
			blockOf(termBranch(1, 2, to[1]), insRead(1)),
			blockOf(termBranch(2, to[2], 4), insRead(2)),
			withPhis(blockOf(termBack(3), insOut(3)), phiOf(3, [2]int{from[2], 2}, [2]int{from[0], 0}, [2]int{from[1], 1})),
			blockOf(termBack(0))}, more...)...)
	}
	cross := func(a, b impl.Term, from [4]int, more ...impl.Block) impl.Fn {
		return progOf(7, append([]impl.Block{
			blockOf(termBranch(0, 4, 1), insRead(0), insRead(1), insRead(2)),
			blockOf(a),
			withPhis(blockOf(termBack(3)), phiOf(3, [2]int{from[0], 0}, [2]int{from[1], 1}), phiOf(6, [2]int{from[1], 0}, [2]int{from[0], 1})),
			withPhis(blockOf(termBack(4)), phiOf(4, [2]int{from[2], 1}, [2]int{from[3], 2})),
			blockOf(b)}, more...)...)
	}
	far := func(a, b impl.Term, more ...impl.Block) impl.Fn {
		return progOf(1, append([]impl.Block{blockOf(graphTo(3), insRead(0)), blockOf(a), blockOf(termBack(0)), blockOf(b)}, more...)...)
	}
	return []edgeCase{
		{"several to one To", row([3]int{3, 3, 3}, [3]int{0, 1, 2}), []int{0, 5, 6}, edgesOf([2]int{0, 3}, [2]int{1, 3}, [2]int{2, 3}),
			row([3]int{5, 6, 7}, [3]int{5, 6, 7}, blockOf(graphTo(3)), blockOf(graphTo(3)), blockOf(graphTo(3)))},
		{"two from each of two", cross(termBranch(1, 2, 3), termBranch(2, 3, 2), [4]int{1, 4, 1, 4}), []int{1, 2, 3}, edgesOf([2]int{1, 2}, [2]int{1, 3}, [2]int{4, 3}, [2]int{4, 2}),
			cross(termBranch(1, 5, 6), termBranch(2, 7, 8), [4]int{5, 8, 6, 7}, blockOf(graphTo(2)), blockOf(graphTo(3)), blockOf(graphTo(3)), blockOf(graphTo(2)))},
		{"by From, not by the way", far(termBranch(0, 2, 3), termBranch(0, 1, 2)), []int{0}, edgesOf([2]int{1, 2}, [2]int{1, 3}, [2]int{3, 2}),
			far(termBranch(0, 4, 5), termBranch(0, 1, 6), blockOf(graphTo(2)), blockOf(graphTo(3)), blockOf(graphTo(2)))},
	}
}

func edgeCases() []edgeCase {
	return slices.Concat(edgeOrdinary(), edgePhis(), edgeBack(), edgeMany())
}

func wantCritical(t *testing.T, name string, f impl.Fn, want []impl.Edge) {
	t.Helper()
	if got := impl.Critical(f); !slices.Equal(got, want) {
		t.Errorf("%s: Critical is %v, not %v: %+v", name, got, want, f)
	}
}

func wantSplit(t *testing.T, name string, f, want impl.Fn, wantOk bool) {
	t.Helper()
	got, ok := impl.Split(f)
	if ok != wantOk || !fnSame(got, want) {
		t.Errorf("%s: Split is %t and\n%+v, not %t and\n%+v", name, ok, got, wantOk, want)
	}
}

func lookEdge(t *testing.T, c edgeCase) {
	t.Helper()
	wantWell(t, c.name, c.f)
	wantCritical(t, c.name, c.f, c.critical)
	wantSplit(t, c.name, c.f, c.split, true)
}

func TestEdgeOrdinary(t *testing.T) {
	for _, c := range edgeOrdinary() {
		lookEdge(t, c)
	}
}

func TestEdgePhis(t *testing.T) {
	for _, c := range edgePhis() {
		lookEdge(t, c)
	}
}

func TestEdgeBack(t *testing.T) {
	for _, c := range edgeBack() {
		lookEdge(t, c)
	}
}

func TestEdgeMany(t *testing.T) {
	for _, c := range edgeMany() {
		lookEdge(t, c)
	}
}

// edgeWay is the way of a program that is split: between two blocks whose edge is critical comes the block of that edge.
func edgeWay(path []int, blocks int, critical []impl.Edge) []int {
	way := []int{}
	for i, b := range path {
		if i > 0 {
			if at := slices.Index(critical, impl.Edge{From: path[i-1], To: b}); at >= 0 {
				way = append(way, blocks+at)
			}
		}
		way = append(way, b)
	}
	return way
}

// edgeTells holds g, which is f split, against f: with one of fuel more for each new block that it comes to it does the same,
// with as much as f it tells the beginning.
func edgeTells(t *testing.T, name string, f, g impl.Fn, reads []int) {
	t.Helper()
	critical := impl.Critical(f)
	for _, fuel := range smallRuns(f, reads) {
		told, how, end := impl.Run(f, reads, fuel)
		path := impl.Path(f, reads, fuel)
		if less, _, _ := impl.Run(g, reads, fuel); !isBeginning(less, told) {
			t.Errorf("%s, fuel %d, reads %v: %v is told, which does not begin %v: %+v", name, fuel, reads, less, told, f)
		}
		way := edgeWay(path, len(f.Blocks), critical)
		more := min(fuel, impl.MaxFuel) + len(way) - len(path)
		if how == impl.RnFuel && more > impl.MaxFuel {
			continue // nobody is given that much
		}
		toldG, howG, endG := impl.Run(g, reads, more)
		if !slices.Equal(told, toldG) || how != howG || end != endG || !slices.Equal(impl.Path(g, reads, more), way) {
			t.Errorf("%s, fuel %d, reads %v: Run is %v, %d, %d, not %v, %d, %d: %+v", name, fuel, reads, toldG, howG, endG, told, how, end, f)
		}
	}
}

// edgePromise is promise 8 of one program that is well, and has room for what is new.
func edgePromise(t *testing.T, name string, f impl.Fn, reads []int) {
	t.Helper()
	g, ok := impl.Split(f)
	if !ok {
		t.Fatalf("%s: Split is false: %+v", name, f)
	}
	wantWell(t, name+": split", g)
	wantCritical(t, name+": split", g, nil)
	if list := criticalModel(g); len(list) > 0 {
		t.Errorf("%s: split it has %v: %+v", name, list, g)
	}
	wantSplit(t, name+": split again", g, g, true)
	edgeTells(t, name, f, g, reads)
	if impl.Cost(g) != impl.Cost(f) || g.Values != f.Values || len(g.Blocks) != len(f.Blocks)+len(impl.Critical(f)) {
		t.Errorf("%s: split it is no longer as great: %+v", name, g)
	}
}

// Promise 8: split a program has no critical edge, is well, and tells the same.
func TestEdgePromise(t *testing.T) {
	for _, c := range edgeCases() {
		for _, reads := range [][]int{c.reads, nil, {0}, {1, 1, 1}, {2, -1, 0, 4}, {0, 0, 7}, {0, 3, 0}, {8, 0, 6, 0, 5}} {
			edgePromise(t, c.name, c.f, reads)
		}
	}
	for _, c := range smallCases() {
		edgePromise(t, c.name, c.f, c.reads)
	}
	for _, c := range slices.Concat(runOrdinary(), runPhis(), runOdd(), runCellCases()) {
		if impl.Check(c.f) == impl.CkWell {
			edgePromise(t, c.name, c.f, c.reads)
		}
	}
}

// Smaller and split a program still tells the same: the passes go one behind the other.
func TestEdgePromiseBehindSmaller(t *testing.T) {
	for _, c := range edgeCases() {
		edgePromise(t, c.name, impl.Prune(impl.Fold(c.f)), c.reads)
	}
}

// edgeNames counts how many blocks name b as one that follows.
func edgeNames(f impl.Fn, b int) int {
	n := 0
	for _, block := range f.Blocks {
		if t := block.Term; t.Kind != impl.TmBack && t.To == b || t.Kind == impl.TmBranch && t.Else == b {
			n++
		}
	}
	return n
}

// criticalModel goes by the ends of blocks alone.
func criticalModel(f impl.Fn) []impl.Edge {
	list := []impl.Edge{}
	for b, block := range f.Blocks {
		t := block.Term
		if t.Kind != impl.TmBranch || t.To == t.Else {
			continue
		}
		for _, to := range []int{t.To, t.Else} {
			if edgeNames(f, to) > 1 || len(f.Blocks[to].Phis) > 0 {
				list = append(list, impl.Edge{From: b, To: to})
			}
		}
	}
	return list
}

// splitModel numbers all edges first, and then writes each block anew.
func splitModel(f impl.Fn) impl.Fn {
	number := map[[2]int]int{}
	for i, e := range criticalModel(f) {
		number[[2]int{e.From, e.To}] = len(f.Blocks) + i
	}
	turn := func(from, to, other int) int {
		if n, ok := number[[2]int{from, to}]; ok {
			return n
		}
		return other
	}
	g := progOf(f.Values)
	for b, block := range f.Blocks {
		fresh := blockOf(block.Term, block.List...)
		if block.Term.Kind == impl.TmBranch {
			fresh.Term = termBranch(block.Term.A, turn(b, block.Term.To, block.Term.To), turn(b, block.Term.Else, block.Term.Else))
		}
		for _, p := range block.Phis {
			q := impl.Phi{D: p.D}
			for _, a := range p.Arms {
				q.Arms = append(q.Arms, impl.Arm{From: turn(a.From, b, a.From), V: a.V})
			}
			fresh.Phis = append(fresh.Phis, q)
		}
		g.Blocks = append(g.Blocks, fresh)
	}
	for _, e := range criticalModel(f) {
		g.Blocks = append(g.Blocks, blockOf(graphTo(e.To)))
	}
	return g
}

// edgeModel holds a program that is well against the model; it tells whether there was room for what is new.
func edgeModel(t *testing.T, name string, f impl.Fn) bool {
	t.Helper()
	wantCritical(t, name, f, criticalModel(f))
	want := splitModel(f)
	room := len(want.Blocks) <= impl.MaxBlocks
	if !room {
		want = f
	}
	wantSplit(t, name, f, want, room)
	return room
}

func TestEdgeModelOfCases(t *testing.T) {
	for _, c := range edgeCases() {
		wantFn(t, c.name+": the model", splitModel(c.f), c.split)
		edgeModel(t, c.name, c.f)
	}
}

// edgeWithPhis puts a phi without an arm into each block whose bit is set, so that it has phis, whoever comes to it.
func edgeWithPhis(f impl.Fn, bits int) impl.Fn {
	g := fnCopy(f)
	for b := range g.Blocks {
		if bits>>b&1 == 1 {
			g.Blocks[b].Phis = []impl.Phi{phiOf(1)}
		}
	}
	return g
}

// Every program of up to three blocks, with and without phis in each: Critical asks no more than the shape.
func TestEdgeCriticalOfAllSmallPrograms(t *testing.T) {
	seen := 0
	for n := 1; n <= 3; n++ {
		graphEach(n, func(f impl.Fn) {
			for bits := range 1 << n {
				g := edgeWithPhis(f, bits)
				want := criticalModel(g)
				wantCritical(t, "small", g, want)
				seen += len(want)
			}
		})
	}
	if seen < 5000 {
		t.Error(seen)
	}
}

func TestEdgeCriticalOfDrawnPrograms(t *testing.T) {
	d := &drawer{x: 8}
	graphDrawn(func(f impl.Fn) {
		wantCritical(t, "drawn", f, criticalModel(f))
		g := edgeWithPhis(f, d.draw(1<<len(f.Blocks)))
		wantCritical(t, "drawn with phis", g, criticalModel(g))
	})
}

func TestEdgeDrawnPrograms(t *testing.T) {
	seen, split, back, single, over := 0, 0, 0, 0, 0
	wellDrawn(8, 150, func(f impl.Fn) {
		if !edgeModel(t, "drawn", f) {
			over++
			return
		}
		seen++
		for _, e := range criticalModel(f) {
			split++
			back += flag(slices.Contains(domModel(f).doms[e.From], e.To))
			single += flag(edgeNames(f, e.To) == 1)
		}
	})
	if seen < 800 || split < 2000 || back < 300 || single < 200 || over < 500 {
		t.Error(seen, split, back, single, over)
	}
}

func TestEdgePromiseOfDrawnPrograms(t *testing.T) {
	d := &drawer{x: 88}
	var seen [3]int
	wellDrawn(81, 60, func(f impl.Fn) {
		if len(splitModel(f).Blocks) > impl.MaxBlocks {
			return
		}
		reads := runReads(d)
		edgePromise(t, "drawn", f, reads)
		_, how, _ := impl.Run(f, reads, 300)
		seen[how]++
	})
	if seen[impl.RnDone] < 100 || seen[impl.RnFuel] < 50 || seen[impl.RnCell] < 100 {
		t.Error(seen)
	}
}

// edgeComb has so many blocks straight on, and behind them so many branches that all go to one and the same block:
// as many edges are critical.
func edgeComb(straight, branches, phis int) impl.Fn {
	n := straight + branches
	f := progOf(2 + phis)
	for b := range n {
		f.Blocks = append(f.Blocks, blockOf(graphTo(b+1)))
		if b >= straight {
			f.Blocks[b].Term = termBranch(0, n+1, b+1)
		}
	}
	f.Blocks = append(f.Blocks, blockOf(graphTo(n+1)), blockOf(termBack(1)))
	f.Blocks[0].List = []impl.Ins{insRead(0), insRead(1)}
	last := &f.Blocks[n+1]
	for i := range phis {
		p := phiOf(2 + i)
		for from := straight; from <= n; from++ {
			p.Arms = append(p.Arms, impl.Arm{From: from, V: (from + i) % 2})
		}
		last.Phis = append(last.Phis, p)
		last.Term = termBack(2 + i)
	}
	return f
}

// Limits: just MaxBlocks is accepted, one more is refused, whatever the program is made of.
func TestEdgeLimits(t *testing.T) {
	var seen [2]int
	for branches := range 15 {
		for straight := range 15 - branches {
			f := edgeComb(straight, branches, 1)
			if len(criticalModel(f)) != branches {
				t.Fatalf("%d, %d: not as many edges: %+v", straight, branches, f)
			}
			wantWell(t, "a comb", f)
			room := edgeModel(t, "a comb", f)
			if room != (straight+2*branches+2 <= impl.MaxBlocks) {
				t.Fatalf("%d, %d: there is room: %t", straight, branches, room)
			}
			switch straight + 2*branches + 2 {
			case impl.MaxBlocks:
				seen[0]++
				edgePromise(t, "just MaxBlocks", f, []int{0, 3})
			case impl.MaxBlocks + 1:
				seen[1]++
				wantSplit(t, "one too many", f, f, false)
			}
		}
	}
	if seen != [2]int{8, 7} {
		t.Error(seen)
	}
}

func TestEdgeLimitsOfFullLists(t *testing.T) {
	for _, phis := range []int{23, impl.MaxList} {
		f := edgeComb(0, 7, phis)
		wantWell(t, "many phis", f)
		edgeModel(t, "many phis", f)
		for _, reads := range [][]int{{0, 3}, {5, 0}, {5, 6}} {
			edgePromise(t, "many phis", f, reads)
		}
		g := edgeComb(1, 7, phis)
		wantWell(t, "many phis", g)
		wantSplit(t, "many phis, one block too many", g, g, false)
	}
	f := edgeComb(0, 7, impl.MaxList+1)
	wantCritical(t, "a phi too many", f, nil)
	wantSplit(t, "a phi too many", f, f, false)
}

// edgeRefused is what is answered of a program that is not well: Critical still tells what it has, if it is ShapeOk.
func edgeRefused(t *testing.T, name string, f impl.Fn) {
	t.Helper()
	if impl.Check(f) == impl.CkWell {
		t.Fatalf("%s: nothing is wrong with %+v", name, f)
	}
	wantSplit(t, name, f, f, false)
	want := []impl.Edge{}
	if impl.ShapeOk(f) {
		want = criticalModel(f)
	}
	wantCritical(t, name, f, want)
}

// edgeOdd are programs that are ShapeOk, but not well.
func edgeOdd() []edgeCase {
	back, read := blockOf(termBack(0)), insRead(0)
	odd := func(name string, critical []impl.Edge, blocks ...impl.Block) edgeCase {
		f := progOf(2, blocks...)
		return edgeCase{name, f, nil, critical, f}
	}
	return []edgeCase{
		odd("an InCopy", edgesOf([2]int{0, 2}), blockOf(termBranch(0, 1, 2), read, insCopy(1, 0)), blockOf(graphTo(2)), back),
		odd("one of Preds is not reached", edgesOf([2]int{0, 1}), blockOf(termBranch(0, 1, 2), read), back, back, blockOf(graphTo(1))),
		odd("the other one of Preds is not reached", edgesOf([2]int{0, 2}), blockOf(termBranch(0, 1, 2), read), back, back, blockOf(graphTo(2))),
		odd("From is not reached", edgesOf([2]int{2, 1}), blockOf(graphTo(1), read), back, blockOf(termBranch(0, 1, 3)), back),
		odd("From and To are not reached", edgesOf([2]int{1, 2}), blockOf(termBack(0), read), blockOf(termBranch(0, 1, 2)), withPhis(back, phiOf(1))),
		odd("back to block 0 alone", nil, blockOf(graphTo(1), read), blockOf(termBranch(0, 0, 2)), back),
		odd("back to block 0 from two", edgesOf([2]int{1, 0}), blockOf(graphTo(1), read), blockOf(termBranch(0, 2, 0)), blockOf(graphTo(0))),
		odd("back to block 0 with a phi", edgesOf([2]int{1, 0}), withPhis(blockOf(graphTo(1), read), phiOf(1, [2]int{1, 0})), blockOf(termBranch(0, 0, 2)), back),
		odd("block 0 goes to itself", nil, blockOf(termBranch(0, 0, 1), read), back),
		odd("block 0 goes to itself, with a phi", edgesOf([2]int{0, 0}), withPhis(blockOf(termBranch(0, 1, 0), read), phiOf(1)), back),
		odd("a phi without an arm", edgesOf([2]int{0, 1}), blockOf(termBranch(0, 1, 2), read), withPhis(back, phiOf(1)), back),
		odd("a phi with an arm from elsewhere", edgesOf([2]int{0, 2}), blockOf(termBranch(0, 1, 2), read), back, withPhis(back, phiOf(1, [2]int{1, 0}))),
		odd("arms from elsewhere are no Preds", edgesOf([2]int{0, 1}), blockOf(termBranch(0, 1, 2), read), withPhis(back, phiOf(1, [2]int{0, 0}, [2]int{2, 0})), back),
		odd("a value that is made twice", edgesOf([2]int{0, 2}), blockOf(termBranch(0, 1, 2), read), blockOf(graphTo(2), read), back),
		odd("a value that is nowhere made", edgesOf([2]int{0, 2}), blockOf(termBranch(1, 1, 2), read), blockOf(graphTo(2)), back),
		odd("both ways to one block, from two", nil, blockOf(termBranch(1, 1, 1)), blockOf(termBranch(1, 2, 2)), blockOf(termBranch(1, 1, 1))),
	}
}

func TestEdgeCriticalOfWhatIsNotWell(t *testing.T) {
	var seen [7]int
	for _, c := range edgeOdd() {
		seen[impl.Check(c.f)]++
		edgeRefused(t, c.name, c.f)
		wantCritical(t, c.name, c.f, c.critical)
	}
	if slices.Contains(seen[1:], 0) {
		t.Errorf("a code is missing: %v", seen)
	}
}

// One program and more for each code of Check, and one for each two mistakes at once, of a program that has a critical edge.
func TestEdgeNotWell(t *testing.T) {
	wantCritical(t, "room for every mistake", checkSpoilt(), edgesOf([2]int{3, 5}))
	edgePromise(t, "room for every mistake", checkSpoilt(), []int{2})
	var seen [7]int
	list := checkSpoils()
	for i, a := range list {
		f := checkSpoilt()
		a.spoil(&f)
		if got := impl.Check(f); got != a.code {
			t.Errorf("%s: Check is %d, not %d", a.name, got, a.code)
		}
		seen[a.code]++
		edgeRefused(t, a.name, f)
		for _, b := range list[i+1:] {
			g := fnCopy(f)
			b.spoil(&g)
			edgeRefused(t, a.name+", "+b.name, g)
		}
	}
	if slices.Contains(seen[1:], 0) {
		t.Errorf("a code is missing: %v", seen)
	}
}

func TestEdgeNotWellElsewhere(t *testing.T) {
	for _, c := range checkCases() {
		if c.want != impl.CkWell {
			edgeRefused(t, c.name, c.f)
		}
	}
	edgeRefused(t, "every kind of place", fnFull())
	wantCritical(t, "every kind of place", fnFull(), edgesOf([2]int{0, 1}, [2]int{0, 2}))
}

func TestEdgeNotShapeOk(t *testing.T) {
	list := append(graphSpoiled(), impl.Fn{Values: math.MinInt}, impl.Fn{Values: math.MaxInt, Blocks: make([]impl.Block, 2)})
	for _, op := range fnOpsNone {
		f := checkSpoilt()
		addPlace(&f, 3, impl.Ins{Op: op})
		list = append(list, f)
	}
	for _, kind := range fnKindsNone {
		f := checkSpoilt()
		f.Blocks[5].Term.Kind = kind
		list = append(list, f)
	}
	for _, from := range fnFar {
		f := checkSpoilt()
		f.Blocks[5].Phis[0].Arms[1].From = from
		list = append(list, f)
	}
	for _, f := range list {
		if impl.ShapeOk(f) {
			t.Fatalf("nothing is wrong with %+v", f)
		}
		edgeRefused(t, "not ShapeOk", f)
	}
}

func TestEdgeNotWellDrawn(t *testing.T) {
	d := &drawer{x: 888}
	var seen [7]int
	wellDrawn(82, 60, func(f impl.Fn) {
		for range 4 {
			g := fnCopy(f)
			checkChange(d, g)
			code := impl.Check(g)
			seen[code]++
			if code == impl.CkWell {
				edgeModel(t, "changed", g)
			} else {
				edgeRefused(t, "changed", g)
			}
		}
	})
	for code, n := range seen {
		if n < 20 {
			t.Errorf("only %d programs of code %d: %v", n, code, seen)
		}
	}
}

func edgeAnyPrograms() []edgeCase {
	list := slices.Concat(edgeCases(), edgeOdd())
	for _, c := range checkCases() {
		list = append(list, edgeCase{name: c.name, f: c.f})
	}
	for _, c := range checkSpoils() {
		f := checkSpoilt()
		c.spoil(&f)
		list = append(list, edgeCase{name: c.name, f: f})
	}
	return append(list,
		edgeCase{name: "just MaxBlocks", f: edgeComb(0, 7, 3)},
		edgeCase{name: "one block too many", f: edgeComb(1, 7, 3)})
}

// Promise 21: neither a program nor the spare room behind it is written into, none of it counts, and no answer shares memory with it.
func TestEdgeWritesIntoNothing(t *testing.T) {
	for _, c := range edgeAnyPrograms() {
		f := fnRoomy(c.f)
		before := fnCopy(fnWhole(f))
		critical := impl.Critical(f)
		g, ok := impl.Split(f)
		wantCritical(t, c.name+" with room", c.f, critical)
		wantSplit(t, c.name+" with room", c.f, g, ok)
		again, _ := impl.Split(f)
		twice, _ := impl.Split(g)
		wantApart(t, c.name, f, g, again, twice)
		if !reflect.DeepEqual(fnWhole(f), before) {
			t.Errorf("%s: an argument was written into", c.name)
		}
	}
}

// Lists that share memory with each other in the argument are apart in the answer, and each is changed once.
func TestEdgeAnswersAreApart(t *testing.T) {
	arms := []impl.Arm{{From: 0, V: 0}, {From: 1, V: 0}}
	list := []impl.Ins{insOut(0), insOut(0), insOut(0)}
	f := progOf(5,
		blockOf(termBranch(0, 2, 1), insRead(0)),
		impl.Block{List: list[:2], Term: termBranch(0, 3, 2)},
		impl.Block{Phis: []impl.Phi{{D: 1, Arms: arms}, {D: 2, Arms: arms}}, List: list, Term: graphTo(3)},
		impl.Block{Phis: []impl.Phi{phiOf(3, [2]int{1, 0}, [2]int{2, 1})}, List: list[1:], Term: termBack(3)})
	wantWell(t, "shared lists", f)
	edgeModel(t, "shared lists", f)
	edgePromise(t, "shared lists", f, []int{5})
	g, _ := impl.Split(f)
	wantApart(t, "shared lists", g)
	dead := f
	dead.Blocks = append(slices.Clone(f.Blocks), impl.Block{List: list, Term: termBack(0)})
	edgeRefused(t, "shared lists, not well", dead)
	g, _ = impl.Split(dead)
	wantApart(t, "shared lists, not well", g)
}

func TestEdgeCriticalIsNew(t *testing.T) {
	for _, c := range edgeCases() {
		first := impl.Critical(c.f)
		first = append(first, impl.Edge{From: -1, To: -1})
		for i := range first {
			first[i] = impl.Edge{From: -7, To: -8}
		}
		lookEdge(t, c)
		g, _ := impl.Split(c.f)
		for b := range g.Blocks {
			g.Blocks[b].Term = impl.Term{}
			for _, p := range g.Blocks[b].Phis {
				clear(p.Arms)
			}
			clear(g.Blocks[b].List)
		}
		lookEdge(t, c)
	}
}
