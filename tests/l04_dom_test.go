package tests

import (
	"reflect"
	"slices"
	"testing"

	"loop.example/g00192/impl"
)

// A domCase is a program, Doms of each of its blocks, and Above of each.
type domCase struct {
	name  string
	ends  []impl.Term
	doms  [][]int
	above []int
}

var domOrdinary = []domCase{
	{
		name:  "straight on",
		ends:  []impl.Term{graphTo(1), graphTo(2), graphEnd},
		doms:  [][]int{{0}, {0, 1}, {0, 1, 2}},
		above: []int{-1, 0, 1},
	}, {
		name:  "straight on, the greatest ahead of the least",
		ends:  []impl.Term{graphTo(2), graphEnd, graphTo(3), graphTo(1)},
		doms:  [][]int{{0}, {0, 1, 2, 3}, {0, 2}, {0, 2, 3}},
		above: []int{-1, 3, 0, 2},
	}, {
		name:  "straight on, the last but one in the midst of the numbers",
		ends:  []impl.Term{graphTo(3), graphTo(2), graphEnd, graphTo(1)},
		doms:  [][]int{{0}, {0, 1, 3}, {0, 1, 2, 3}, {0, 3}},
		above: []int{-1, 3, 1, 0},
	}, {
		name:  "a branch that joins again",
		ends:  []impl.Term{graphFork(1, 2), graphTo(3), graphTo(3), graphEnd},
		doms:  [][]int{{0}, {0, 1}, {0, 2}, {0, 3}},
		above: []int{-1, 0, 0, 0},
	}, {
		name:  "a branch past one block",
		ends:  []impl.Term{graphFork(1, 2), graphTo(2), graphEnd},
		doms:  [][]int{{0}, {0, 1}, {0, 2}},
		above: []int{-1, 0, 0},
	}, {
		name:  "two ends",
		ends:  []impl.Term{graphFork(1, 2), graphEnd, graphEnd},
		doms:  [][]int{{0}, {0, 1}, {0, 2}},
		above: []int{-1, 0, 0},
	}, {
		name:  "two joins, one behind the other",
		ends:  []impl.Term{graphFork(1, 2), graphTo(3), graphTo(3), graphFork(4, 5), graphTo(6), graphTo(6), graphEnd},
		doms:  [][]int{{0}, {0, 1}, {0, 2}, {0, 3}, {0, 3, 4}, {0, 3, 5}, {0, 3, 6}},
		above: []int{-1, 0, 0, 0, 3, 3, 3},
	}, {
		name:  "a join within one side of a branch",
		ends:  []impl.Term{graphFork(1, 5), graphFork(2, 3), graphTo(4), graphTo(4), graphTo(6), graphTo(6), graphEnd},
		doms:  [][]int{{0}, {0, 1}, {0, 1, 2}, {0, 1, 3}, {0, 1, 4}, {0, 5}, {0, 6}},
		above: []int{-1, 0, 1, 1, 1, 0, 0},
	}, {
		name:  "two ways into one block, out of two sides",
		ends:  []impl.Term{graphFork(1, 2), graphFork(3, 4), graphTo(4), graphTo(5), graphTo(5), graphEnd},
		doms:  [][]int{{0}, {0, 1}, {0, 2}, {0, 1, 3}, {0, 4}, {0, 5}},
		above: []int{-1, 0, 0, 1, 0, 0},
	}, {
		name:  "a loop",
		ends:  []impl.Term{graphTo(1), graphFork(2, 3), graphTo(1), graphEnd},
		doms:  [][]int{{0}, {0, 1}, {0, 1, 2}, {0, 1, 3}},
		above: []int{-1, 0, 1, 1},
	}, {
		name:  "a loop whose choice is at its end",
		ends:  []impl.Term{graphTo(1), graphTo(2), graphFork(1, 3), graphEnd},
		doms:  [][]int{{0}, {0, 1}, {0, 1, 2}, {0, 1, 2, 3}},
		above: []int{-1, 0, 1, 2},
	}, {
		name:  "a loop in a loop",
		ends:  []impl.Term{graphTo(1), graphFork(2, 5), graphFork(3, 4), graphTo(2), graphTo(1), graphEnd},
		doms:  [][]int{{0}, {0, 1}, {0, 1, 2}, {0, 1, 2, 3}, {0, 1, 2, 4}, {0, 1, 5}},
		above: []int{-1, 0, 1, 2, 2, 1},
	}, {
		name:  "a branch within a loop, one side of which leaves it",
		ends:  []impl.Term{graphTo(1), graphFork(2, 3), graphTo(4), graphFork(4, 5), graphTo(1), graphEnd},
		doms:  [][]int{{0}, {0, 1}, {0, 1, 2}, {0, 1, 3}, {0, 1, 4}, {0, 1, 3, 5}},
		above: []int{-1, 0, 1, 1, 1, 3},
	},
}

var domEdges = []domCase{
	{
		name:  "one block alone",
		ends:  []impl.Term{graphEnd},
		doms:  [][]int{{0}},
		above: []int{-1},
	}, {
		name:  "one block that jumps to itself",
		ends:  []impl.Term{graphTo(0)},
		doms:  [][]int{{0}},
		above: []int{-1},
	}, {
		name:  "one block both of whose ways go to itself",
		ends:  []impl.Term{graphFork(0, 0)},
		doms:  [][]int{{0}},
		above: []int{-1},
	}, {
		name:  "a block that goes to itself or on",
		ends:  []impl.Term{graphTo(1), graphFork(1, 2), graphEnd},
		doms:  [][]int{{0}, {0, 1}, {0, 1, 2}},
		above: []int{-1, 0, 1},
	}, {
		name:  "a block that goes to itself alone",
		ends:  []impl.Term{graphFork(1, 2), graphTo(1), graphFork(2, 2)},
		doms:  [][]int{{0}, {0, 1}, {0, 2}},
		above: []int{-1, 0, 0},
	}, {
		name:  "ways back to block 0",
		ends:  []impl.Term{graphFork(1, 2), graphTo(0), graphFork(0, 3), graphTo(0)},
		doms:  [][]int{{0}, {0, 1}, {0, 2}, {0, 2, 3}},
		above: []int{-1, 0, 0, 2},
	}, {
		name:  "a row that goes back to block 0",
		ends:  []impl.Term{graphTo(1), graphTo(2), graphTo(0)},
		doms:  [][]int{{0}, {0, 1}, {0, 1, 2}},
		above: []int{-1, 0, 1},
	}, {
		name:  "a choice between one and the same",
		ends:  []impl.Term{graphFork(2, 2), graphEnd, graphFork(1, 1)},
		doms:  [][]int{{0}, {0, 1, 2}, {0, 2}},
		above: []int{-1, 2, 0},
	}, {
		name:  "a choice between one and the same leaves a block out",
		ends:  []impl.Term{graphTo(1), graphFork(3, 3), graphTo(1), graphEnd},
		doms:  [][]int{{0}, {0, 1}, {}, {0, 1, 3}},
		above: []int{-1, 0, -1, 1},
	}, {
		name:  "a loop that is come into at two places",
		ends:  []impl.Term{graphFork(1, 2), graphTo(2), graphFork(1, 3), graphEnd},
		doms:  [][]int{{0}, {0, 1}, {0, 2}, {0, 2, 3}},
		above: []int{-1, 0, 0, 2},
	}, {
		name:  "a loop of three that is come into at two places",
		ends:  []impl.Term{graphTo(1), graphFork(2, 4), graphTo(3), graphFork(4, 5), graphTo(2), graphEnd},
		doms:  [][]int{{0}, {0, 1}, {0, 1, 2}, {0, 1, 2, 3}, {0, 1, 4}, {0, 1, 2, 3, 5}},
		above: []int{-1, 0, 1, 2, 1, 3},
	}, {
		name:  "two loops that share a block, each come into at two places",
		ends:  []impl.Term{graphFork(1, 2), graphTo(5), graphFork(4, 3), graphTo(4), graphFork(3, 5), graphTo(4)},
		doms:  [][]int{{0}, {0, 1}, {0, 2}, {0, 3}, {0, 4}, {0, 5}},
		above: []int{-1, 0, 0, 0, 0, 0},
	}, {
		name:  "a loop whose second way in is seen late",
		ends:  []impl.Term{graphFork(4, 5), graphFork(2, 5), graphEnd, graphTo(1), graphTo(3), graphFork(3, 4)},
		doms:  [][]int{{0}, {0, 1, 3}, {0, 1, 2, 3}, {0, 3}, {0, 4}, {0, 5}},
		above: []int{-1, 3, 1, 0, 0, 0},
	}, {
		name:  "nothing but block 0 is reached",
		ends:  []impl.Term{graphEnd, graphTo(0), graphFork(3, 1), graphTo(3)},
		doms:  [][]int{{0}, {}, {}, {}},
		above: []int{-1, -1, -1, -1},
	}, {
		name:  "blocks that are not reached go to such as are",
		ends:  []impl.Term{graphTo(3), graphTo(3), graphFork(4, 3), graphTo(4), graphEnd},
		doms:  [][]int{{0}, {}, {}, {0, 3}, {0, 3, 4}},
		above: []int{-1, -1, -1, 0, 3},
	}, {
		name:  "blocks that are not reached go to one another",
		ends:  []impl.Term{graphTo(5), graphTo(2), graphFork(1, 3), graphTo(1), graphFork(4, 4), graphEnd},
		doms:  [][]int{{0}, {}, {}, {}, {}, {0, 5}},
		above: []int{-1, -1, -1, -1, -1, 0},
	}, {
		name:  "a row that is not reached leads into a loop that is",
		ends:  []impl.Term{graphTo(1), graphFork(2, 3), graphTo(1), graphEnd, graphTo(5), graphFork(2, 4)},
		doms:  [][]int{{0}, {0, 1}, {0, 1, 2}, {0, 1, 3}, {}, {}},
		above: []int{-1, 0, 1, 1, -1, -1},
	}, {
		name:  "one that is not reached follows one that could be passed by",
		ends:  []impl.Term{graphTo(2), graphFork(0, 3), graphTo(3), graphEnd},
		doms:  [][]int{{0}, {}, {0, 2}, {0, 2, 3}},
		above: []int{-1, -1, 0, 2},
	}, {
		name:  "the last block is not reached",
		ends:  []impl.Term{graphTo(1), graphTo(0), graphTo(1)},
		doms:  [][]int{{0}, {0, 1}, {}},
		above: []int{-1, 0, -1},
	},
}

func domCases() []domCase { return slices.Concat(domOrdinary, domEdges) }

// sameDoms takes an empty list and nil for the same.
func sameDoms(a, b [][]int) bool {
	return slices.EqualFunc(a, b, func(x, y []int) bool { return slices.Equal(x, y) })
}

func checkDom(t *testing.T, f impl.Fn, c domCase) {
	t.Helper()
	if got := impl.Doms(f); !sameDoms(got, c.doms) {
		t.Errorf("%s: Doms are %v, not %v: %v", c.name, got, c.doms, f)
	}
	for b, want := range c.above {
		if got := impl.Above(f, b); got != want {
			t.Errorf("%s: Above of %d is %d, not %d: %v", c.name, b, got, want, f)
		}
	}
	for a := range f.Blocks {
		for b := range f.Blocks {
			if got, want := impl.Dominates(f, a, b), slices.Contains(c.doms[b], a); got != want {
				t.Errorf("%s: Dominates of %d and %d is %v: %v", c.name, a, b, got, f)
			}
		}
	}
}

func TestDomOrdinary(t *testing.T) {
	for _, c := range domOrdinary {
		checkDom(t, graphOf(c.ends...), c)
	}
}

func TestDomEdges(t *testing.T) {
	for _, c := range domEdges {
		checkDom(t, graphOf(c.ends...), c)
	}
}

// What stands in a block, and from where its arms come, has no say in who comes first.
func TestDomGoesByEndsAlone(t *testing.T) {
	for _, c := range domCases() {
		f := graphOf(c.ends...)
		for b := range f.Blocks {
			f.Blocks[b].List = []impl.Ins{{Op: impl.InConst, D: 1}, {Op: impl.InStore, A: 1}, {Op: impl.InCopy, D: 0, A: 1}}
			f.Blocks[b].Phis = []impl.Phi{{D: 0}, {D: 1, Arms: []impl.Arm{{From: len(f.Blocks) - 1}}}}
		}
		checkDom(t, f, c)
	}
}

// domRow goes through all blocks in one row, in this order; by back each but the last may go to block 0, too.
func domRow(row []int, back bool) (impl.Fn, domCase) {
	n := len(row)
	c := domCase{name: "a row", ends: make([]impl.Term, n), doms: make([][]int, n), above: make([]int, n)}
	for i, b := range row {
		c.ends[b] = graphEnd
		if i+1 < n && back {
			c.ends[b] = graphFork(0, row[i+1])
		} else if i+1 < n {
			c.ends[b] = graphTo(row[i+1])
		}
		c.doms[b] = slices.Sorted(slices.Values(row[:i+1]))
		c.above[b] = -1
		if i > 0 {
			c.above[b] = row[i-1]
		}
	}
	return graphOf(c.ends...), c
}

func TestDomRows(t *testing.T) {
	for n := 1; n <= impl.MaxBlocks; n++ {
		up := make([]int, n)
		down := make([]int, n)
		mixed := make([]int, n)
		for i := range n {
			up[i] = i
			down[i] = (n - i) % n
			mixed[i] = i
			if n == 16 {
				mixed[i] = i * 7 % n
			}
		}
		for _, row := range [][]int{up, down, mixed} {
			for _, back := range []bool{false, true} {
				f, c := domRow(row, back)
				checkDom(t, f, c)
			}
		}
	}
}

func TestDomMaxBlocksThatAllJoin(t *testing.T) {
	n := impl.MaxBlocks
	c := domCase{name: "all join", ends: make([]impl.Term, n), doms: make([][]int, n), above: make([]int, n)}
	for b := range n - 1 {
		c.ends[b] = graphFork(n-1, (b+1)%n)
		for a := range b + 1 {
			c.doms[b] = append(c.doms[b], a)
		}
		c.above[b] = b - 1
	}
	c.ends[n-1] = graphTo(0)
	c.doms[n-1] = []int{0, n - 1}
	checkDom(t, graphOf(c.ends...), c)
}

// domWithout has for each block whether there is a way from block 0 to it that goes through a nowhere.
func domWithout(succs [][]int, a int) []bool {
	come := make([]bool, len(succs))
	work := []int{0}
	for len(work) > 0 {
		b := work[0]
		work = work[1:]
		if b != a && !come[b] {
			come[b] = true
			work = append(work, succs[b]...)
		}
	}
	return come
}

// domModel takes each block out in turn, and looks at what is not come to any more.
func domModel(f impl.Fn) domCase {
	g := graphModel(f)
	n := len(f.Blocks)
	c := domCase{name: "model", doms: make([][]int, n), above: make([]int, n)}
	for a := range n {
		come := domWithout(g.succs, a)
		for _, b := range g.reached {
			if !come[b] {
				c.doms[b] = append(c.doms[b], a)
			}
		}
	}
	for b := range n {
		c.above[b] = domAbove(c.doms, b)
	}
	return c
}

func domAbove(doms [][]int, b int) int {
	for _, a := range doms[b] {
		all := a != b
		for _, other := range doms[b] {
			all = all && (other == b || slices.Contains(doms[a], other))
		}
		if all {
			return a
		}
	}
	return -1
}

func TestDomAllSmallPrograms(t *testing.T) {
	for n := 1; n <= 3; n++ {
		graphEach(n, func(f impl.Fn) { checkDom(t, f, domModel(f)) })
	}
}

// domDrawn are programs whose blocks go on, or not far back or ahead, so that many have long lists of Doms.
func domDrawn(look func(f impl.Fn)) {
	x := uint32(4)
	draw := func(n int) int {
		x = x*1664525 + 1013904223
		return int(x>>16) % n
	}
	for n := 4; n <= impl.MaxBlocks; n++ {
		for range 100 {
			step := 1 + 2*draw(3)
			for n%step == 0 && step > 1 {
				step -= 2
			}
			// at turns a place in the row into a block, so that who comes first is not the lesser one.
			at := func(i int) int { return (i + n) % n * step % n }
			ends := make([]impl.Term, n)
			for i := range n {
				ends[at(i)] = graphTo(at(i + 1))
				switch draw(4) {
				case 0:
					ends[at(i)] = graphFork(at(i+1), at(i+2))
				case 1:
					ends[at(i)] = graphFork(at(i+n-draw(3)), at(i+1))
				}
			}
			ends[at(n-1)] = graphEnd
			look(graphOf(ends...))
		}
	}
}

func TestDomDrawnPrograms(t *testing.T) {
	graphDrawn(func(f impl.Fn) { checkDom(t, f, domModel(f)) })
	domDrawn(func(f impl.Fn) { checkDom(t, f, domModel(f)) })
}

// domPairs asks of each two.
func domPairs(f impl.Fn) [][]bool {
	pairs := make([][]bool, len(f.Blocks))
	for a := range pairs {
		pairs[a] = make([]bool, len(f.Blocks))
		for b := range pairs[a] {
			pairs[a][b] = impl.Dominates(f, a, b)
		}
	}
	return pairs
}

// Promise 4: block 0 dominates all that is reached; who dominates one that dominates a third dominates it.
// Beside it: a block that is reached dominates itself, no two one another, and who is not reached has no part in it.
func domPromise(t *testing.T, f impl.Fn) {
	t.Helper()
	pairs, reached := domPairs(f), impl.Reached(f)
	for a := range pairs {
		if pairs[0][a] != reached[a] || pairs[a][a] != reached[a] {
			t.Errorf("%d: by block 0 %v, by itself %v, reached %v: %v", a, pairs[0][a], pairs[a][a], reached[a], f)
		}
		for b := range pairs {
			if pairs[a][b] && (!reached[a] || !reached[b]) {
				t.Errorf("%d dominates %d, but one is not reached: %v", a, b, f)
			}
			if pairs[a][b] && pairs[b][a] && a != b {
				t.Errorf("%d and %d dominate one another: %v", a, b, f)
			}
			for c := range pairs {
				if pairs[a][b] && pairs[b][c] && !pairs[a][c] {
					t.Errorf("%d dominates %d, which dominates %d: %v", a, b, c, f)
				}
			}
		}
	}
}

// domClimb goes from b up by Above: it comes through just its Doms, and ends with block 0.
func domClimb(t *testing.T, f impl.Fn, b int, doms []int) {
	t.Helper()
	way := []int{}
	for at := b; at >= 0 && len(way) <= len(f.Blocks); at = impl.Above(f, at) {
		way = append(way, at)
	}
	if way[len(way)-1] != 0 {
		t.Errorf("up from %d is %v: %v", b, way, f)
	}
	slices.Sort(way)
	if !slices.Equal(way, doms) {
		t.Errorf("up from %d is %v, Doms are %v: %v", b, way, doms, f)
	}
}

func TestDomPromise(t *testing.T) {
	look := func(f impl.Fn) {
		domPromise(t, f)
		for b, doms := range impl.Doms(f) {
			if len(doms) > 0 {
				domClimb(t, f, b, doms)
			}
		}
	}
	for _, c := range domCases() {
		look(graphOf(c.ends...))
	}
	graphEach(3, look)
	graphDrawn(look)
	domDrawn(look)
}

func TestDomNotShapeOk(t *testing.T) {
	blocks := append([]int{0, 1, 2, 3, 4, 15, 16, 99}, fnFar...)
	for _, f := range graphSpoiled() {
		if impl.ShapeOk(f) {
			t.Fatalf("nothing is wrong with %+v", f)
		}
		if got := impl.Doms(f); len(got) != 0 {
			t.Errorf("Doms are %v: %+v", got, f)
		}
		for _, a := range blocks {
			if got := impl.Above(f, a); got != -1 {
				t.Errorf("Above of %d is %d: %+v", a, got, f)
			}
			for _, b := range blocks {
				if impl.Dominates(f, a, b) {
					t.Errorf("%d dominates %d: %+v", a, b, f)
				}
			}
		}
	}
}

func TestDomBlocksThatAreNone(t *testing.T) {
	for _, c := range domCases() {
		f := graphOf(c.ends...)
		n := len(f.Blocks)
		none := append([]int{n, n + 1, 15, 16, 17, 1 << 32, 1<<32 + 1}, fnFar...)
		for _, x := range none {
			if got := impl.Above(f, x); got != -1 {
				t.Errorf("%s: Above of %d is %d", c.name, x, got)
			}
			for _, y := range none {
				if impl.Dominates(f, x, y) {
					t.Errorf("%s: %d dominates %d", c.name, x, y)
				}
			}
			for b := range n {
				if impl.Dominates(f, x, b) || impl.Dominates(f, b, x) {
					t.Errorf("%s: %d dominates %d, or the other way round", c.name, x, b)
				}
			}
		}
	}
}

// With MaxBlocks blocks the first block that is none is the first beyond every table, too.
func TestDomBlocksBeyondMaxBlocks(t *testing.T) {
	f, _ := domRow([]int{0, 1, 2, 3, 4, 5, 6, 7, 8, 9, 10, 11, 12, 13, 14, 15}, false)
	for _, x := range append([]int{16, 17, 32, 256}, fnFar...) {
		if got := impl.Above(f, x); got != -1 {
			t.Errorf("Above of %d is %d", x, got)
		}
		for b := range f.Blocks {
			if impl.Dominates(f, x, b) || impl.Dominates(f, b, x) {
				t.Errorf("%d dominates %d, or the other way round", x, b)
			}
		}
	}
}

// Promise 21: what stands in the spare room behind the blocks counts for nothing, and stays.
func TestDomWritesIntoNothing(t *testing.T) {
	for _, c := range domCases() {
		room := graphOf(append(slices.Clone(c.ends), graphTo(0), graphFork(0, 1))...)
		for b := range room.Blocks {
			room.Blocks[b].List = []impl.Ins{{Op: impl.InOut, A: 1}}
			room.Blocks[b].Phis = []impl.Phi{{D: 1, Arms: []impl.Arm{{From: 0, V: 1}}}}
		}
		before := fnCopy(room)
		f := impl.Fn{Values: 2, Blocks: room.Blocks[:len(c.ends)]}
		checkDom(t, f, c)
		checkDom(t, f, c)
		if !reflect.DeepEqual(room, before) {
			t.Errorf("%s: an argument was written into", c.name)
		}
	}
}

// Promise 21: a list of Doms shares nothing with another one of the same answer, nor with another answer.
func TestDomAnswersAreNew(t *testing.T) {
	for _, c := range domCases() {
		f := graphOf(c.ends...)
		first := impl.Doms(f)
		for b := range first {
			got := impl.Doms(f)
			fnScribble(got[b])
			got[b] = c.doms[b]
			if !sameDoms(got, c.doms) {
				t.Errorf("%s: the list of %d is shared with another one: %v", c.name, b, got)
			}
		}
		got := impl.Doms(f)
		clear(got[:cap(got)])
		if !sameDoms(first, c.doms) {
			t.Errorf("%s: an answer is shared with another one: %v", c.name, first)
		}
		checkDom(t, f, c)
	}
}
