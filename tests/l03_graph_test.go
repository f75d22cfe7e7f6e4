package tests

import (
	"math"
	"reflect"
	"slices"
	"testing"

	"loop.example/g00192/impl"
)

func graphTo(to int) impl.Term { return impl.Term{Kind: impl.TmJump, To: to} }

func graphFork(to, other int) impl.Term {
	return impl.Term{Kind: impl.TmBranch, A: 1, To: to, Else: other}
}

var graphEnd = impl.Term{Kind: impl.TmBack, A: 1}

// graphOf has a block for each of these ends.
func graphOf(ends ...impl.Term) impl.Fn {
	f := impl.Fn{Values: 2, Blocks: make([]impl.Block, len(ends))}
	for i, t := range ends {
		f.Blocks[i].Term = t
	}
	return f
}

// A graphCase is a program and all that is told of it; Reached is told by the blocks that are.
type graphCase struct {
	name    string
	ends    []impl.Term
	succs   [][]int
	preds   [][]int
	reached []int
	order   []int
}

var graphOrdinary = []graphCase{
	{
		name:    "straight on",
		ends:    []impl.Term{graphTo(1), graphTo(2), graphEnd},
		succs:   [][]int{{1}, {2}, {}},
		preds:   [][]int{{}, {0}, {1}},
		reached: []int{0, 1, 2},
		order:   []int{0, 1, 2},
	}, {
		name:    "straight on, not by number",
		ends:    []impl.Term{graphTo(2), graphEnd, graphTo(3), graphTo(1)},
		succs:   [][]int{{2}, {}, {3}, {1}},
		preds:   [][]int{{}, {3}, {0}, {2}},
		reached: []int{0, 1, 2, 3},
		order:   []int{0, 2, 3, 1},
	}, {
		name:    "a branch that joins again",
		ends:    []impl.Term{graphFork(1, 2), graphTo(3), graphTo(3), graphEnd},
		succs:   [][]int{{1, 2}, {3}, {3}, {}},
		preds:   [][]int{{}, {0}, {0}, {1, 2}},
		reached: []int{0, 1, 2, 3},
		order:   []int{0, 2, 1, 3},
	}, {
		name:    "a branch whose Else is the lesser block",
		ends:    []impl.Term{graphFork(2, 1), graphTo(3), graphTo(3), graphEnd},
		succs:   [][]int{{2, 1}, {3}, {3}, {}},
		preds:   [][]int{{}, {0}, {0}, {1, 2}},
		reached: []int{0, 1, 2, 3},
		order:   []int{0, 1, 2, 3},
	}, {
		name:    "a branch past one block",
		ends:    []impl.Term{graphFork(1, 2), graphTo(2), graphEnd},
		succs:   [][]int{{1, 2}, {2}, {}},
		preds:   [][]int{{}, {0}, {0, 1}},
		reached: []int{0, 1, 2},
		order:   []int{0, 1, 2},
	}, {
		name:    "two ends",
		ends:    []impl.Term{graphFork(1, 2), graphEnd, graphEnd},
		succs:   [][]int{{1, 2}, {}, {}},
		preds:   [][]int{{}, {0}, {0}},
		reached: []int{0, 1, 2},
		order:   []int{0, 2, 1},
	}, {
		name:    "a loop",
		ends:    []impl.Term{graphTo(1), graphFork(2, 3), graphTo(1), graphEnd},
		succs:   [][]int{{1}, {2, 3}, {1}, {}},
		preds:   [][]int{{}, {0, 2}, {1}, {1}},
		reached: []int{0, 1, 2, 3},
		order:   []int{0, 1, 3, 2},
	}, {
		name:    "a loop whose choice is at its end",
		ends:    []impl.Term{graphTo(1), graphTo(2), graphFork(1, 3), graphEnd},
		succs:   [][]int{{1}, {2}, {1, 3}, {}},
		preds:   [][]int{{}, {0, 2}, {1}, {2}},
		reached: []int{0, 1, 2, 3},
		order:   []int{0, 1, 2, 3},
	}, {
		name:    "a loop in a loop",
		ends:    []impl.Term{graphTo(1), graphFork(2, 5), graphFork(3, 4), graphTo(2), graphTo(1), graphEnd},
		succs:   [][]int{{1}, {2, 5}, {3, 4}, {2}, {1}, {}},
		preds:   [][]int{{}, {0, 4}, {1, 3}, {2}, {2}, {1}},
		reached: []int{0, 1, 2, 3, 4, 5},
		order:   []int{0, 1, 5, 2, 4, 3},
	}, {
		name:    "a loop into which two ways lead",
		ends:    []impl.Term{graphFork(1, 2), graphTo(2), graphFork(1, 3), graphEnd},
		succs:   [][]int{{1, 2}, {2}, {1, 3}, {}},
		preds:   [][]int{{}, {0, 2}, {0, 1}, {2}},
		reached: []int{0, 1, 2, 3},
		order:   []int{0, 1, 2, 3},
	}, {
		name:    "two joins, one behind the other",
		ends:    []impl.Term{graphFork(1, 2), graphTo(3), graphTo(3), graphFork(4, 5), graphTo(6), graphTo(6), graphEnd},
		succs:   [][]int{{1, 2}, {3}, {3}, {4, 5}, {6}, {6}, {}},
		preds:   [][]int{{}, {0}, {0}, {1, 2}, {3}, {3}, {4, 5}},
		reached: []int{0, 1, 2, 3, 4, 5, 6},
		order:   []int{0, 2, 1, 3, 5, 4, 6},
	},
}

var graphEdges = []graphCase{
	{
		name:    "one block alone",
		ends:    []impl.Term{graphEnd},
		succs:   [][]int{{}},
		preds:   [][]int{{}},
		reached: []int{0},
		order:   []int{0},
	}, {
		name:    "one block that jumps to itself",
		ends:    []impl.Term{graphTo(0)},
		succs:   [][]int{{0}},
		preds:   [][]int{{0}},
		reached: []int{0},
		order:   []int{0},
	}, {
		name:    "one block both of whose ways go to itself",
		ends:    []impl.Term{graphFork(0, 0)},
		succs:   [][]int{{0}},
		preds:   [][]int{{0}},
		reached: []int{0},
		order:   []int{0},
	}, {
		name:    "a block that goes to itself or on",
		ends:    []impl.Term{graphTo(1), graphFork(1, 2), graphEnd},
		succs:   [][]int{{1}, {1, 2}, {}},
		preds:   [][]int{{}, {0, 1}, {1}},
		reached: []int{0, 1, 2},
		order:   []int{0, 1, 2},
	}, {
		name:    "a block that goes on or to itself",
		ends:    []impl.Term{graphTo(1), graphFork(2, 1), graphEnd},
		succs:   [][]int{{1}, {2, 1}, {}},
		preds:   [][]int{{}, {0, 1}, {1}},
		reached: []int{0, 1, 2},
		order:   []int{0, 1, 2},
	}, {
		name:    "ways back to block 0",
		ends:    []impl.Term{graphFork(1, 2), graphTo(0), graphFork(0, 3), graphTo(0)},
		succs:   [][]int{{1, 2}, {0}, {0, 3}, {0}},
		preds:   [][]int{{1, 2, 3}, {0}, {0}, {2}},
		reached: []int{0, 1, 2, 3},
		order:   []int{0, 2, 3, 1},
	}, {
		name:    "a choice between one and the same",
		ends:    []impl.Term{graphFork(2, 2), graphEnd, graphFork(1, 1)},
		succs:   [][]int{{2}, {}, {1}},
		preds:   [][]int{{}, {2}, {0}},
		reached: []int{0, 1, 2},
		order:   []int{0, 2, 1},
	}, {
		name:    "a choice between one and the same leaves a block out",
		ends:    []impl.Term{graphTo(1), graphFork(3, 3), graphTo(1), graphEnd},
		succs:   [][]int{{1}, {3}, {1}, {}},
		preds:   [][]int{{}, {0, 2}, {}, {1}},
		reached: []int{0, 1, 3},
		order:   []int{0, 1, 3},
	}, {
		name:    "nothing but block 0 is reached",
		ends:    []impl.Term{graphEnd, graphTo(0), graphFork(3, 1), graphTo(3)},
		succs:   [][]int{{}, {0}, {3, 1}, {3}},
		preds:   [][]int{{1}, {2}, {}, {2, 3}},
		reached: []int{0},
		order:   []int{0},
	}, {
		name:    "blocks that are not reached go to such as are",
		ends:    []impl.Term{graphTo(3), graphTo(3), graphFork(4, 3), graphTo(4), graphEnd},
		succs:   [][]int{{3}, {3}, {4, 3}, {4}, {}},
		preds:   [][]int{{}, {}, {}, {0, 1, 2}, {2, 3}},
		reached: []int{0, 3, 4},
		order:   []int{0, 3, 4},
	}, {
		name:    "blocks that are not reached go to one another",
		ends:    []impl.Term{graphTo(5), graphTo(2), graphFork(1, 3), graphTo(1), graphFork(4, 4), graphEnd},
		succs:   [][]int{{5}, {2}, {1, 3}, {1}, {4}, {}},
		preds:   [][]int{{}, {2, 3}, {1}, {2}, {4}, {0}},
		reached: []int{0, 5},
		order:   []int{0, 5},
	}, {
		name:    "the last block is not reached",
		ends:    []impl.Term{graphTo(1), graphTo(0), graphTo(1)},
		succs:   [][]int{{1}, {0}, {1}},
		preds:   [][]int{{1}, {0, 2}, {}},
		reached: []int{0, 1},
		order:   []int{0, 1},
	},
}

func graphFlags(n int, list []int) []bool {
	flags := make([]bool, n)
	for _, b := range list {
		flags[b] = true
	}
	return flags
}

func checkGraph(t *testing.T, f impl.Fn, c graphCase) {
	t.Helper()
	for b := range f.Blocks {
		if got := impl.Succs(f, b); !slices.Equal(got, c.succs[b]) {
			t.Errorf("%s: Succs of %d are %v, not %v", c.name, b, got, c.succs[b])
		}
		if got := impl.Preds(f, b); !slices.Equal(got, c.preds[b]) {
			t.Errorf("%s: Preds of %d are %v, not %v", c.name, b, got, c.preds[b])
		}
	}
	if got, want := impl.Reached(f), graphFlags(len(f.Blocks), c.reached); !slices.Equal(got, want) {
		t.Errorf("%s: Reached is %v, not %v", c.name, got, want)
	}
	if got := impl.Order(f); !slices.Equal(got, c.order) {
		t.Errorf("%s: Order is %v, not %v", c.name, got, c.order)
	}
}

func graphCases() []graphCase { return slices.Concat(graphOrdinary, graphEdges) }

func TestGraphOrdinary(t *testing.T) {
	for _, c := range graphOrdinary {
		checkGraph(t, graphOf(c.ends...), c)
	}
}

func TestGraphEdges(t *testing.T) {
	for _, c := range graphEdges {
		checkGraph(t, graphOf(c.ends...), c)
	}
}

// What stands in a block, and from where its arms come, has no say in the way between blocks.
func TestGraphGoesByEndsAlone(t *testing.T) {
	for _, c := range graphCases() {
		f := graphOf(c.ends...)
		for b := range f.Blocks {
			f.Blocks[b].List = []impl.Ins{{Op: impl.InConst, D: 1, N: 7}, {Op: impl.InOut, A: 1}, {Op: impl.InCopy, D: 0, A: 1}}
			f.Blocks[b].Phis = []impl.Phi{{D: 0}, {D: 1, Arms: []impl.Arm{{From: len(f.Blocks) - 1}}}}
		}
		checkGraph(t, f, c)
	}
}

// graphRow goes through all blocks in one row, in this order.
func graphRow(row []int) (impl.Fn, graphCase) {
	n := len(row)
	c := graphCase{name: "a row", ends: make([]impl.Term, n), succs: make([][]int, n), preds: make([][]int, n), reached: row, order: row}
	for i, b := range row {
		c.ends[b] = graphEnd
		if i+1 < n {
			c.ends[b] = graphTo(row[i+1])
			c.succs[b] = []int{row[i+1]}
		}
		if i > 0 {
			c.preds[b] = []int{row[i-1]}
		}
	}
	return graphOf(c.ends...), c
}

func TestGraphRows(t *testing.T) {
	for n := 1; n <= impl.MaxBlocks; n++ {
		up := make([]int, n)
		down := make([]int, n)
		mixed := make([]int, n)
		for i := range n {
			up[i] = i
			down[i] = (n - i) % n
			mixed[i] = i
			if n == 16 {
				mixed[i] = i * 7 % n
			}
		}
		for _, row := range [][]int{up, down, mixed} {
			f, c := graphRow(row)
			checkGraph(t, f, c)
		}
	}
}

func TestGraphMaxBlocksThatAllJoin(t *testing.T) {
	n := impl.MaxBlocks
	ends := make([]impl.Term, n)
	all := []int{}
	for b := range n - 1 {
		ends[b] = graphFork(n-1, (b+1)%n)
		all = append(all, b)
	}
	ends[n-1] = graphTo(0)
	f := graphOf(ends...)
	if got := impl.Preds(f, n-1); !slices.Equal(got, all) {
		t.Errorf("Preds are %v", got)
	}
	if got := impl.Preds(f, 0); !slices.Equal(got, []int{n - 1}) {
		t.Errorf("Preds are %v", got)
	}
	if got := impl.Order(f); !slices.Equal(got, append(all, n-1)) {
		t.Errorf("Order is %v", got)
	}
	if got := impl.Reached(f); len(got) != n || slices.Contains(got, false) {
		t.Errorf("Reached is %v", got)
	}
}

// graphEnds are all ends that a block of a program of n blocks can have.
func graphEnds(n int) []impl.Term {
	list := []impl.Term{graphEnd}
	for to := range n {
		list = append(list, graphTo(to))
		for other := range n {
			list = append(list, graphFork(to, other))
		}
	}
	return list
}

// graphEach calls with every program of n blocks.
func graphEach(n int, look func(f impl.Fn)) {
	ends := graphEnds(n)
	pick := make([]int, n)
	f := graphOf(make([]impl.Term, n)...)
	for {
		for b, p := range pick {
			f.Blocks[b].Term = ends[p]
		}
		look(f)
		b := 0
		for b < n && pick[b] == len(ends)-1 {
			pick[b] = 0
			b++
		}
		if b == n {
			return
		}
		pick[b]++
	}
}

// graphWays has for each two blocks whether there is a way, of any length, from one to the other.
func graphWays(succs [][]int) [][]bool {
	ways := make([][]bool, len(succs))
	for b, list := range succs {
		ways[b] = graphFlags(len(succs), append([]int{b}, list...))
	}
	for via := range ways {
		for a := range ways {
			for b := range ways {
				ways[a][b] = ways[a][b] || ways[a][via] && ways[via][b]
			}
		}
	}
	return ways
}

// graphLeft is the order in which blocks are left, by a stack of places to go on from in place of calls.
func graphLeft(succs [][]int) []int {
	type turn struct{ block, next int }
	come := make([]bool, len(succs))
	left := []int{}
	come[0] = true
	for stack := []turn{{}}; len(stack) > 0; {
		top := &stack[len(stack)-1]
		if top.next == len(succs[top.block]) {
			left = append(left, top.block)
			stack = stack[:len(stack)-1]
			continue
		}
		s := succs[top.block][top.next]
		top.next++
		if !come[s] {
			come[s] = true
			stack = append(stack, turn{block: s})
		}
	}
	return left
}

// graphModel tells all of a program from its ends, by other ways than the program has.
func graphModel(f impl.Fn) graphCase {
	n := len(f.Blocks)
	c := graphCase{name: "model", succs: make([][]int, n), preds: make([][]int, n)}
	for b := range n {
		switch t := f.Blocks[b].Term; {
		case t.Kind == impl.TmBranch && t.To != t.Else:
			c.succs[b] = []int{t.To, t.Else}
		case t.Kind != impl.TmBack:
			c.succs[b] = []int{t.To}
		}
		for _, s := range c.succs[b] {
			c.preds[s] = append(c.preds[s], b)
		}
	}
	for b, way := range graphWays(c.succs)[0] {
		if way {
			c.reached = append(c.reached, b)
		}
	}
	c.order = graphLeft(c.succs)
	slices.Reverse(c.order)
	return c
}

func TestGraphAllSmallPrograms(t *testing.T) {
	for n := 1; n <= 3; n++ {
		graphEach(n, func(f impl.Fn) { checkGraph(t, f, graphModel(f)) })
	}
}

// graphDrawn are programs of many blocks, drawn by a fixed rule.
func graphDrawn(look func(f impl.Fn)) {
	x := uint32(1)
	draw := func(n int) int {
		x = x*1664525 + 1013904223
		return int(x>>16) % n
	}
	for n := 4; n <= impl.MaxBlocks; n++ {
		for range 200 {
			ends := make([]impl.Term, n)
			for b := range ends {
				switch draw(8) {
				case 0:
					ends[b] = graphEnd
				case 1, 2:
					ends[b] = graphTo(draw(n))
				default:
					ends[b] = graphFork(draw(n), draw(n))
				}
			}
			look(graphOf(ends...))
		}
	}
}

func TestGraphDrawnPrograms(t *testing.T) {
	graphDrawn(func(f impl.Fn) { checkGraph(t, f, graphModel(f)) })
}

// Promise 3: of what is reached each is told once, block 0 first; who follows comes behind, unless it leads back.
func graphPromise(t *testing.T, f impl.Fn) {
	t.Helper()
	order, reached := impl.Order(f), impl.Reached(f)
	at := make([]int, len(f.Blocks))
	for i, b := range order {
		if at[b] != 0 || !reached[b] {
			t.Errorf("%d is told twice, or not reached: %v %v", b, order, reached)
		}
		at[b] = i + 1
	}
	if order[0] != 0 || !reached[0] {
		t.Errorf("block 0 is not first: %v", order)
	}
	ways := graphWays(graphModel(f).succs)
	for b := range f.Blocks {
		if reached[b] != (at[b] != 0) {
			t.Errorf("%d is reached but not told: %v", b, order)
		}
		ahead := b == 0
		for _, p := range impl.Preds(f, b) {
			ahead = ahead || at[p] != 0 && at[p] < at[b]
			if reached[p] && !ways[b][p] && at[p] >= at[b] {
				t.Errorf("%d follows %d but does not come behind: %v", b, p, order)
			}
		}
		if reached[b] && !ahead {
			t.Errorf("%d comes ahead of all whom it follows: %v", b, order)
		}
	}
}

func TestGraphPromise(t *testing.T) {
	for _, c := range graphCases() {
		graphPromise(t, graphOf(c.ends...))
	}
	graphEach(3, func(f impl.Fn) { graphPromise(t, f) })
	graphDrawn(func(f impl.Fn) { graphPromise(t, f) })
}

// graphSpoiled are programs with just one thing wrong; where there is a choice it is in a block that is not reached.
func graphSpoiled() []impl.Fn {
	list := []impl.Fn{{}, {Values: 2}, {Values: 2, Blocks: []impl.Block{{}}}}
	spoil := func(change func(f *impl.Fn)) {
		f := graphOf(graphFork(1, 2), graphTo(2), graphEnd, graphTo(2))
		change(&f)
		list = append(list, f)
	}
	spoil(func(f *impl.Fn) { f.Values = 81 })
	spoil(func(f *impl.Fn) { f.Values = -1 })
	spoil(func(f *impl.Fn) { f.Values = 1 })
	spoil(func(f *impl.Fn) { f.Blocks[3].List = []impl.Ins{{Op: 11}} })
	spoil(func(f *impl.Fn) { f.Blocks[3].List = make([]impl.Ins, 1) })
	spoil(func(f *impl.Fn) { f.Blocks[3].List = slices.Repeat([]impl.Ins{{Op: impl.InRead}}, 25) })
	spoil(func(f *impl.Fn) { f.Blocks[3].Phis = make([]impl.Phi, 25) })
	spoil(func(f *impl.Fn) { f.Blocks[3].Phis = []impl.Phi{{D: 2}} })
	spoil(func(f *impl.Fn) { f.Blocks[3].Phis = []impl.Phi{{Arms: make([]impl.Arm, 2)}} })
	for _, b := range []int{-1, 4, 5, 16, 1 << 32, math.MaxInt, math.MinInt} {
		for at := range 4 {
			spoil(func(f *impl.Fn) { f.Blocks[at].Term = graphTo(b) })
			spoil(func(f *impl.Fn) { f.Blocks[at].Term = graphFork(b, 0) })
			spoil(func(f *impl.Fn) { f.Blocks[at].Term = graphFork(0, b) })
			spoil(func(f *impl.Fn) { f.Blocks[at].Term = graphFork(b, b) })
			spoil(func(f *impl.Fn) { f.Blocks[at].Term.Kind = b })
		}
	}
	spoil(func(f *impl.Fn) { f.Blocks[3].Term.Else = 1 })
	spoil(func(f *impl.Fn) { f.Blocks[3].Term.A = 1 })
	spoil(func(f *impl.Fn) { f.Blocks[2].Term.To = 1 })
	over := make([]impl.Term, impl.MaxBlocks+1)
	for b := range over {
		over[b] = graphTo((b + 1) % len(over))
	}
	return append(list, graphOf(over...), graphOf(slices.Repeat(over, 100)...))
}

func TestGraphNotShapeOk(t *testing.T) {
	for _, f := range graphSpoiled() {
		if impl.ShapeOk(f) {
			t.Fatalf("nothing is wrong with %+v", f)
		}
		for _, b := range append([]int{0, 1, 2, 3, 4, 15, 16}, fnFar...) {
			if got := impl.Succs(f, b); len(got) != 0 {
				t.Errorf("Succs of %d are %v: %+v", b, got, f)
			}
			if got := impl.Preds(f, b); len(got) != 0 {
				t.Errorf("Preds of %d are %v: %+v", b, got, f)
			}
		}
		if got := impl.Reached(f); len(got) != 0 {
			t.Errorf("Reached is %v: %+v", got, f)
		}
		if got := impl.Order(f); len(got) != 0 {
			t.Errorf("Order is %v: %+v", got, f)
		}
	}
}

func TestGraphBlocksThatAreNone(t *testing.T) {
	for _, c := range graphCases() {
		f := graphOf(c.ends...)
		n := len(f.Blocks)
		for _, b := range append([]int{n, n + 1, 15, 16, 1 << 32, 1<<32 + 1}, fnFar...) {
			if got := impl.Succs(f, b); len(got) != 0 {
				t.Errorf("%s: Succs of %d are %v", c.name, b, got)
			}
			if got := impl.Preds(f, b); len(got) != 0 {
				t.Errorf("%s: Preds of %d are %v", c.name, b, got)
			}
		}
	}
}

// Promise 21: what stands in the spare room behind the blocks counts for nothing, and stays.
func TestGraphWritesIntoNothing(t *testing.T) {
	for _, c := range graphCases() {
		room := graphOf(append(slices.Clone(c.ends), graphTo(0), graphFork(0, 1))...)
		for b := range room.Blocks {
			room.Blocks[b].List = []impl.Ins{{Op: impl.InOut, A: 1}}
			room.Blocks[b].Phis = []impl.Phi{{D: 1, Arms: []impl.Arm{{From: 0, V: 1}}}}
		}
		before := fnCopy(room)
		f := impl.Fn{Values: 2, Blocks: room.Blocks[:len(c.ends)]}
		checkGraph(t, f, c)
		checkGraph(t, f, c)
		if !reflect.DeepEqual(room, before) {
			t.Errorf("%s: an argument was written into", c.name)
		}
	}
}

func TestGraphAnswersAreNew(t *testing.T) {
	for _, c := range graphCases() {
		f := graphOf(c.ends...)
		for b := range f.Blocks {
			fnScribble(impl.Succs(f, b))
			fnScribble(impl.Preds(f, b))
		}
		fnScribble(impl.Order(f))
		order, succs, preds, reached := impl.Order(f), impl.Succs(f, 0), impl.Preds(f, 0), impl.Reached(f)
		fnScribble(impl.Order(f))
		fnScribble(impl.Succs(f, 0))
		fnScribble(impl.Preds(f, 0))
		again := impl.Reached(f)
		for b := range again {
			again[b] = !again[b]
		}
		if !slices.Equal(order, c.order) || !slices.Equal(succs, c.succs[0]) || !slices.Equal(preds, c.preds[0]) || !slices.Equal(reached, graphFlags(len(f.Blocks), c.reached)) {
			t.Errorf("%s: an answer is shared with another one", c.name)
		}
		checkGraph(t, f, c)
	}
}
