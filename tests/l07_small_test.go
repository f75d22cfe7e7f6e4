package tests

import (
	"math"
	"reflect"
	"slices"
	"testing"

	"loop.example/g00192/impl"
)

// A smallCase is a program that is well, and what becomes of it: folds are block, place and number of what is made an InConst,
// gone are the values whose making Prune leaves out, and both those that it leaves out of what is folded.
type smallCase struct {
	name  string
	f     impl.Fn
	reads []int
	cost  int
	folds [][3]int
	used  []int
	gone  []int
	both  []int
}

func smallOrdinary() []smallCase {
	return []smallCase{
		{"straight on", checkStraight(), []int{5}, 5, nil, []int{0, 1, 2, 3}, nil, nil},
		{"straight on with what is known, and what nobody takes",
			progOf(6,
				blockOf(graphTo(1), insConst(0, 7), insConst(1, 5), insRead(2)),
				blockOf(graphTo(2), insAdd(3, 0, 1), insOut(3)),
				blockOf(termBack(4), insOp(impl.OpMul, 4, 3, 0), insOp(impl.OpSub, 5, 4, 2))),
			[]int{8}, 7, [][3]int{{1, 0, 12}, {2, 0, 84}}, []int{0, 1, 3, 4}, []int{5}, []int{0, 1, 5}},
		{"a branch that joins", checkJoin(), []int{4}, 6, nil, []int{0, 1, 2, 3, 4}, nil, nil},
		{"a branch that joins with two phis, one of them for nobody",
			progOf(9,
				blockOf(termBranch(0, 1, 2), insRead(0), insConst(1, 10)),
				blockOf(graphTo(3), insConst(2, 1), insAdd(3, 1, 2)),
				blockOf(graphTo(3), insConst(4, 2), insOut(4), insAdd(5, 4, 0)),
				withPhis(blockOf(termBack(8), insAdd(8, 6, 1)), phiOf(7, [2]int{1, 2}, [2]int{2, 5}), phiOf(6, [2]int{2, 4}, [2]int{1, 3}))),
			[]int{0}, 10, [][3]int{{1, 1, 11}}, []int{0, 1, 2, 3, 4, 6, 8}, []int{5, 7}, []int{2, 5, 7}},
		{"a loop", checkLoop(), nil, 8, nil, []int{0, 1, 2, 3, 4, 5, 6}, nil, nil},
		{"a loop that reckons for nobody",
			progOf(12,
				blockOf(graphTo(1), insConst(0, 3), insConst(1, 1), insConst(2, 0), insOp(impl.OpLeft, 7, 0, 1)),
				withPhis(blockOf(termBranch(3, 2, 3)), phiOf(8, [2]int{0, 7}, [2]int{2, 9}), phiOf(3, [2]int{0, 0}, [2]int{2, 5}), phiOf(4, [2]int{0, 2}, [2]int{2, 6})),
				blockOf(graphTo(1), insOut(3), insOp(impl.OpSub, 5, 3, 1), insAdd(6, 4, 3), insAdd(10, 3, 3), insAdd(9, 8, 10), insAdd(11, 1, 1)),
				blockOf(termBack(4))),
			nil, 13, [][3]int{{0, 3, 6}, {2, 5, 2}}, []int{0, 1, 2, 3, 4, 5, 6}, []int{7, 8, 9, 10, 11}, []int{7, 8, 9, 10, 11}},
		{"a loop in a loop", checkNest(), []int{2}, 9, nil, []int{0, 1, 2, 3, 4, 5, 6}, nil, nil},
		{"stores and loads",
			progOf(7,
				blockOf(graphTo(1), insConst(0, 2), insConst(1, 3), insAdd(2, 0, 1), insRead(3), insStore(2, 3)),
				blockOf(termBack(5), insLoad(4, 0), insLoad(5, 2), insOp(impl.OpMul, 6, 5, 5))),
			[]int{9}, 8, [][3]int{{0, 2, 5}}, []int{0, 1, 2, 3, 5}, []int{6}, []int{1, 6}},
		{"reads and tells", runEcho(), []int{3, -2, 8}, 3, nil, []int{0, 1}, nil, nil},
		{"reads and tells, and counts for nobody",
			progOf(7,
				blockOf(graphTo(1), insConst(1, 9), insConst(2, 0), insConst(3, 1)),
				withPhis(blockOf(termBranch(0, 2, 3), insRead(0)), phiOf(4, [2]int{0, 2}, [2]int{2, 5})),
				blockOf(graphTo(1), insAdd(5, 4, 3), insOut(0), insRead(6)),
				blockOf(termBack(1))),
			[]int{3, 77, -2, 0, 8}, 8, nil, []int{0, 1}, []int{2, 3, 4, 5}, []int{2, 3, 4, 5}},
	}
}

func oneBlock(values, back int, list ...impl.Ins) impl.Fn {
	return progOf(values, blockOf(termBack(back), list...))
}

// smallKnown are the edges of what is known.
func smallKnown() []smallCase {
	join := func(a, b impl.Ins, v int) impl.Fn {
		return progOf(5, blockOf(termBranch(0, 1, 2), insRead(0)), blockOf(graphTo(3), a), blockOf(graphTo(3), b),
			withPhis(blockOf(termBack(4), insAdd(4, 3, v)), phiOf(3, [2]int{1, 1}, [2]int{2, 2})))
	}
	return []smallCase{
		{"just A is known", oneBlock(3, 2, insRead(0), insConst(1, 4), insAdd(2, 1, 0)), []int{6}, 3, nil, []int{0, 1, 2}, nil, nil},
		{"just B is known", oneBlock(3, 2, insRead(0), insConst(1, 4), insAdd(2, 0, 1)), []int{6}, 3, nil, []int{0, 1, 2}, nil, nil},
		{"neither is known", oneBlock(3, 2, insRead(0), insRead(1), insOp(impl.OpXor, 2, 0, 1)), []int{6, 3}, 3, nil, []int{0, 1, 2}, nil, nil},
		{"nought times what is not known", oneBlock(3, 2, insRead(0), insConst(1, 0), insOp(impl.OpMul, 2, 0, 1)), []int{6}, 3, nil, []int{0, 1, 2}, nil, nil},
		{"A and B are one value that is not known", oneBlock(3, 2, insRead(0), insOp(impl.OpSub, 1, 0, 0), insOp(impl.OpSame, 2, 1, 1)), []int{6}, 3, nil, []int{0, 1, 2}, nil, nil},
		{"A and B are one value that is known", oneBlock(2, 1, insConst(0, 6), insOp(impl.OpMul, 1, 0, 0)), nil, 2, [][3]int{{0, 1, 36}}, []int{0, 1}, nil, []int{0}},
		{"known by way of others", oneBlock(4, 3, insConst(0, 2), insAdd(1, 0, 0), insOp(impl.OpMul, 2, 1, 1), insOp(impl.OpSub, 3, 2, 0), insOut(2)), nil, 5,
			[][3]int{{0, 1, 4}, {0, 2, 16}, {0, 3, 14}}, []int{0, 1, 2, 3}, nil, []int{0, 1}},
		{"nought is known", oneBlock(5, 4, insConst(0, 0), insConst(1, 0), insOp(impl.OpAnd, 2, 0, 1), insOp(impl.OpSame, 3, 2, 0), insOp(impl.OpLess, 4, 3, 0)), nil, 5,
			[][3]int{{0, 2, 0}, {0, 3, 1}, {0, 4, 0}}, []int{0, 1, 2, 3, 4}, nil, []int{0, 1, 2, 3}},
		{"A is ahead of B", oneBlock(4, 3, insConst(0, 2), insConst(1, 5), insOp(impl.OpSub, 2, 0, 1), insOp(impl.OpLeft, 3, 0, 1), insOut(2)), nil, 5,
			[][3]int{{0, 2, -3}, {0, 3, 64}}, []int{0, 1, 2, 3}, nil, []int{0, 1}},
		{"words that wrap", oneBlock(5, 4, insConst(0, math.MaxInt), insConst(1, 1), insAdd(2, 0, 1), insOp(impl.OpSub, 3, 2, 1), insOp(impl.OpMul, 4, 2, 3)), nil, 5,
			[][3]int{{0, 2, math.MinInt}, {0, 3, math.MaxInt}, {0, 4, math.MinInt}}, []int{0, 1, 2, 3, 4}, nil, []int{0, 1, 2, 3}},
		{"shifts by much", oneBlock(6, 5, insConst(0, -8), insConst(1, 65), insConst(2, -1), insOp(impl.OpLeft, 3, 0, 1), insOp(impl.OpRight, 4, 3, 1), insOp(impl.OpLeft, 5, 2, 2), insOut(4)), nil, 7,
			[][3]int{{0, 3, -16}, {0, 4, -8}, {0, 5, math.MinInt}}, []int{0, 1, 2, 3, 4, 5}, nil, []int{0, 1, 2, 3}},
		{"blocks that come the other way round than by number",
			progOf(4, blockOf(graphTo(3)), blockOf(termBack(2), insOp(impl.OpMul, 2, 1, 0)), blockOf(graphTo(1), insAdd(1, 0, 0)), blockOf(graphTo(2), insConst(0, 5))), nil, 3,
			[][3]int{{2, 0, 10}, {1, 0, 50}}, []int{0, 1, 2}, nil, []int{0, 1}},
		{"a block of a lesser number that comes later",
			progOf(6, blockOf(termBranch(0, 1, 2), insRead(0)), blockOf(graphTo(3), insConst(1, 3)), blockOf(graphTo(4), insConst(2, 4)),
				blockOf(termBack(3), insAdd(3, 1, 1)), blockOf(termBack(4), insOp(impl.OpMul, 4, 2, 2))),
			[]int{1}, 5, [][3]int{{3, 0, 6}, {4, 0, 16}}, []int{0, 1, 2, 3, 4}, nil, []int{1, 2}},
		{"known behind a join", progOf(4, blockOf(termBranch(0, 1, 2), insRead(0), insConst(1, 8)), blockOf(graphTo(3)), blockOf(graphTo(3), insOut(1)), blockOf(termBack(2), insOp(impl.OpXor, 2, 1, 1))), []int{0}, 4,
			[][3]int{{3, 0, 0}}, []int{0, 1, 2}, nil, nil},
		{"known in a block that follows itself", progOf(4, blockOf(graphTo(1), insConst(0, 8)), blockOf(termBranch(2, 1, 2), insAdd(1, 0, 0), insRead(2), insOut(1)), blockOf(termBack(1))), []int{1, 1, 0}, 4,
			[][3]int{{1, 0, 16}}, []int{0, 1, 2}, nil, []int{0}},
		{"a phi all of whose arms are known", join(insConst(1, 3), insConst(2, 4), 3), []int{0}, 5, nil, []int{0, 1, 2, 3, 4}, nil, nil},
		{"a phi all of whose arms are known and alike", join(insConst(1, 3), insConst(2, 3), 3), []int{1}, 5, nil, []int{0, 1, 2, 3, 4}, nil, nil},
		{"a phi with one arm that is known", progOf(4, blockOf(graphTo(1), insConst(0, 3)), withPhis(blockOf(termBack(2), insAdd(2, 1, 0), insAdd(3, 0, 0)), phiOf(1, [2]int{0, 0}))), nil, 4,
			[][3]int{{1, 1, 6}}, []int{0, 1, 2}, []int{3}, []int{3}},
		{"a phi of one value that is known", progOf(3, blockOf(graphTo(1), insConst(0, 3)), withPhis(blockOf(termBranch(2, 1, 2), insOp(impl.OpSame, 2, 1, 1), insOut(2)), phiOf(1, [2]int{0, 0}, [2]int{1, 0})), blockOf(termBack(1))), nil, 4,
			nil, []int{0, 1, 2}, nil, nil},
		{"an op of what was read, and of what was stored and loaded", oneBlock(5, 4, insConst(0, 3), insStore(0, 0), insLoad(1, 0), insAdd(2, 1, 0), insRead(3), insAdd(4, 3, 2)), nil, 6,
			nil, []int{0, 1, 2, 3, 4}, nil, nil},
	}
}

// smallTaken are the edges of what somebody takes.
func smallTaken() []smallCase {
	round := func(values int, b impl.Block, phis ...impl.Phi) impl.Fn {
		return progOf(values, blockOf(graphTo(1), insConst(0, 4)), withPhis(b, phis...), blockOf(termBack(3)))
	}
	return []smallCase{
		{"only the end takes it", oneBlock(1, 0, insConst(0, 5)), nil, 1, nil, []int{0}, nil, nil},
		{"only what is told takes it", oneBlock(2, 0, insRead(0), insConst(1, 5), insOut(1)), []int{4}, 3, nil, []int{0, 1}, nil, nil},
		{"only a branch takes it", progOf(2, blockOf(termBranch(0, 1, 2), insConst(0, 5), insRead(1)), blockOf(termBack(1)), blockOf(graphTo(2))), []int{4}, 2, nil, []int{0, 1}, nil, nil},
		{"only a store takes it as its cell", oneBlock(3, 1, insConst(0, 5), insRead(1), insStore(0, 1)), []int{4}, 3, nil, []int{0, 1}, nil, nil},
		{"only a store takes it as what is stored", oneBlock(3, 1, insRead(1), insConst(0, 5), insStore(1, 0)), []int{4}, 3, nil, []int{0, 1}, nil, nil},
		{"only a load takes it whose value the end takes", oneBlock(2, 1, insConst(0, 5), insLoad(1, 0)), nil, 2, nil, []int{0, 1}, nil, nil},
		{"only an arm of a phi of a phi takes it",
			progOf(5, blockOf(graphTo(1), insRead(0), insConst(1, 2)), withPhis(blockOf(graphTo(2)), phiOf(2, [2]int{0, 1})), withPhis(blockOf(termBack(3)), phiOf(3, [2]int{1, 2}), phiOf(4, [2]int{1, 0}))), []int{9}, 5,
			nil, []int{1, 2, 3}, []int{4}, []int{4}},
		{"an op for nobody", oneBlock(2, 0, insRead(0), insAdd(1, 0, 0)), []int{7}, 2, nil, []int{0}, []int{1}, []int{1}},
		{"an op for nobody that is folded", oneBlock(2, 0, insConst(0, 2), insAdd(1, 0, 0)), nil, 2, [][3]int{{0, 1, 4}}, []int{0}, []int{1}, []int{1}},
		{"an InConst for nobody", oneBlock(2, 0, insRead(0), insConst(1, 3)), []int{7}, 2, nil, []int{0}, []int{1}, []int{1}},
		{"a phi for nobody", progOf(2, blockOf(graphTo(1), insRead(0)), withPhis(blockOf(termBack(0)), phiOf(1, [2]int{0, 0}))), []int{7}, 2, nil, []int{0}, []int{1}, []int{1}},
		{"an InRead for nobody", oneBlock(3, 2, insRead(0), insRead(1), insRead(2)), []int{7, 8, 9}, 3, nil, []int{2}, nil, nil},
		{"an InLoad for nobody, and all that it takes", oneBlock(5, 4, insRead(0), insConst(1, 1), insAdd(2, 0, 1), insLoad(3, 2), insConst(4, 6)), []int{2}, 5, nil, []int{0, 1, 2, 4}, nil, nil},
		{"an InLoad for nobody from a cell that is none", oneBlock(4, 3, insConst(0, 8), insConst(3, 6), insOut(3), insLoad(1, 0), insOut(3)), nil, 5, nil, []int{0, 3}, nil, nil},
		{"an InLoad for nobody from a phi",
			progOf(4, blockOf(graphTo(1), insRead(0)), withPhis(blockOf(termBack(0), insLoad(2, 1)), phiOf(1, [2]int{0, 0}), phiOf(3, [2]int{0, 0}))), []int{2}, 4,
			nil, []int{0, 1}, []int{3}, []int{3}},
		{"what only an op for nobody takes", oneBlock(5, 0, insRead(0), insConst(1, 3), insAdd(2, 1, 0), insAdd(3, 2, 2), insAdd(4, 3, 1)), []int{7}, 5,
			nil, []int{0}, []int{1, 2, 3, 4}, []int{1, 2, 3, 4}},
		{"what only a phi for nobody takes", progOf(4, blockOf(graphTo(1), insRead(0), insConst(1, 3), insRead(3)), withPhis(blockOf(termBack(0)), phiOf(2, [2]int{0, 1}))), []int{7}, 4,
			nil, []int{0}, []int{1, 2}, []int{1, 2}},
		{"phis that take only each other in a loop", round(5, blockOf(termBranch(3, 1, 2), insRead(3), insAdd(4, 1, 2)), phiOf(1, [2]int{0, 0}, [2]int{1, 2}), phiOf(2, [2]int{0, 0}, [2]int{1, 1})), []int{1, 1, 0}, 5,
			nil, []int{3}, []int{0, 1, 2, 4}, []int{0, 1, 2, 4}},
		{"phis that take each other in a loop, one of them told", round(5, blockOf(termBranch(3, 1, 2), insRead(3), insOut(2)), phiOf(1, [2]int{0, 0}, [2]int{1, 2}), phiOf(2, [2]int{0, 0}, [2]int{1, 1})), []int{1, 1, 0}, 5,
			nil, []int{0, 1, 2, 3}, nil, nil},
		{"a phi and an op that take only each other", round(4, blockOf(termBranch(3, 1, 2), insRead(3), insAdd(2, 1, 3)), phiOf(1, [2]int{1, 2}, [2]int{0, 0})), []int{5, 0}, 4,
			nil, []int{3}, []int{0, 1, 2}, []int{0, 1, 2}},
		{"a phi that takes itself, and nobody else does", round(4, blockOf(termBranch(3, 1, 2), insRead(3), insOut(0)), phiOf(1, [2]int{0, 0}, [2]int{1, 1})), []int{5, 0}, 4,
			nil, []int{0, 3}, []int{1}, []int{1}},
		{"a phi that takes itself, and is told", round(4, blockOf(termBranch(3, 1, 2), insRead(3), insOut(1)), phiOf(1, [2]int{0, 0}, [2]int{1, 1})), []int{5, 0}, 4,
			nil, []int{0, 1, 3}, nil, nil},
		{"taken only by what is made further back in a loop",
			progOf(6, blockOf(graphTo(1), insConst(0, 1)), withPhis(blockOf(graphTo(2), insOut(1)), phiOf(1, [2]int{0, 0}, [2]int{3, 4})),
				blockOf(termBranch(2, 3, 4), insRead(2)), blockOf(graphTo(1), insAdd(3, 2, 0), insAdd(4, 3, 3)), blockOf(termBack(0))),
			[]int{5, 0}, 6, nil, []int{0, 1, 2, 3, 4}, nil, nil},
		{"a list and phis that become empty",
			progOf(4, blockOf(graphTo(1), insConst(0, 1)), withPhis(blockOf(graphTo(2), insAdd(2, 1, 0)), phiOf(1, [2]int{0, 0})), blockOf(termBack(3), insRead(3))), []int{5}, 4,
			nil, []int{3}, []int{0, 1, 2}, []int{0, 1, 2}},
		{"every list becomes empty", progOf(4, blockOf(graphTo(1), insConst(0, 1), insAdd(2, 0, 0)), withPhis(blockOf(graphTo(1), insAdd(3, 1, 2)), phiOf(1, [2]int{1, 3}, [2]int{0, 0}))), nil, 4,
			[][3]int{{0, 1, 2}}, nil, []int{0, 1, 2, 3}, []int{0, 1, 2, 3}},
		{"no value at all", progOf(0, blockOf(graphTo(1)), blockOf(graphTo(1))), nil, 0, nil, nil, nil, nil},
		{"no place at all", progOf(3, blockOf(graphTo(1)), blockOf(graphTo(1))), nil, 0, nil, nil, nil, nil},
		{"values that are nowhere", progOf(80, blockOf(termBack(79), insConst(40, 2), insConst(79, 1))), nil, 2, nil, []int{79}, []int{40}, []int{40}},
	}
}

func smallCases() []smallCase { return slices.Concat(smallOrdinary(), smallKnown(), smallTaken()) }

// fnSame holds two programs against each other; an empty list and nil are the same.
func fnSame(a, b impl.Fn) bool {
	return a.Values == b.Values && slices.EqualFunc(a.Blocks, b.Blocks, func(x, y impl.Block) bool {
		return x.Term == y.Term && slices.Equal(x.List, y.List) && slices.EqualFunc(x.Phis, y.Phis, func(p, q impl.Phi) bool {
			return p.D == q.D && slices.Equal(p.Arms, q.Arms)
		})
	})
}

func smallFolded(c smallCase) impl.Fn {
	g := fnCopy(c.f)
	for _, x := range c.folds {
		place := &g.Blocks[x[0]].List[x[1]]
		*place = insConst(place.D, x[2])
	}
	return g
}

// smallWithout has none of what makes one of these values.
func smallWithout(f impl.Fn, gone []int) impl.Fn {
	g := fnCopy(f)
	for b, block := range f.Blocks {
		g.Blocks[b].Phis, g.Blocks[b].List = nil, nil
		for _, p := range block.Phis {
			if !slices.Contains(gone, p.D) {
				g.Blocks[b].Phis = append(g.Blocks[b].Phis, p)
			}
		}
		for _, x := range block.List {
			if x.Op == impl.InStore || x.Op == impl.InOut || !slices.Contains(gone, x.D) {
				g.Blocks[b].List = append(g.Blocks[b].List, x)
			}
		}
	}
	return g
}

func wantFn(t *testing.T, name string, got, want impl.Fn) {
	t.Helper()
	if !fnSame(got, want) {
		t.Errorf("%s: it is\n%+v, not\n%+v", name, got, want)
	}
}

func wantUsed(t *testing.T, name string, f impl.Fn, used []int) {
	t.Helper()
	if got := impl.Used(f); !slices.Equal(got, graphFlags(f.Values, used)) {
		t.Errorf("%s: Used is %v, not %v: %+v", name, got, used, f)
	}
}

func lookSmall(t *testing.T, c smallCase) {
	t.Helper()
	if got := impl.Check(c.f); got != impl.CkWell {
		t.Fatalf("%s: Check is %d", c.name, got)
	}
	wantFn(t, c.name+": Fold", impl.Fold(c.f), smallFolded(c))
	wantUsed(t, c.name, c.f, c.used)
	wantFn(t, c.name+": Prune", impl.Prune(c.f), smallWithout(c.f, c.gone))
	wantFn(t, c.name+": Prune of Fold", impl.Prune(impl.Fold(c.f)), smallWithout(smallFolded(c), c.both))
	if got := impl.Cost(c.f); got != c.cost {
		t.Errorf("%s: Cost is %d, not %d", c.name, got, c.cost)
	}
	if got := impl.Cost(impl.Prune(c.f)); got != c.cost-len(c.gone) {
		t.Errorf("%s: Cost of what is pruned is %d, not %d", c.name, got, c.cost-len(c.gone))
	}
}

func TestSmallOrdinary(t *testing.T) {
	for _, c := range smallOrdinary() {
		lookSmall(t, c)
	}
}

func TestSmallKnown(t *testing.T) {
	for _, c := range smallKnown() {
		lookSmall(t, c)
	}
}

func TestSmallTaken(t *testing.T) {
	for _, c := range smallTaken() {
		lookSmall(t, c)
	}
}

// Every op of every two of these numbers, ahead of it in its block and in the block ahead, as A and B and as both.
func TestSmallFoldOfEveryOp(t *testing.T) {
	numbers := []int{0, 1, -1, 2, 5, -8, 63, 64, 65, -64, 1 << 32, math.MaxInt, math.MaxInt - 1, math.MinInt, math.MinInt + 1}
	for _, op := range wellOps {
		for _, a := range numbers {
			for _, b := range numbers {
				f := progOf(4, blockOf(graphTo(1), insConst(0, a), insConst(1, b), insOp(op, 2, 0, 1)), blockOf(termBack(3), insOut(2), insOp(op, 3, 1, 1)))
				lookSmall(t, smallCase{"an op", f, nil, 5, [][3]int{{0, 2, wordByBig(op, a, b)}, {1, 1, wordByBig(op, b, b)}}, []int{0, 1, 2, 3}, nil, []int{0, 1}})
			}
		}
	}
}

// smallRuns are the fuels with which programs are held against each other.
func smallRuns(f impl.Fn, reads []int) []int {
	list := []int{300, 5000, math.MaxInt}
	for fuel := range min(runModel(f, reads, 300).need, 40) + 5 {
		list = append(list, fuel)
	}
	return list
}

// tellsSame holds g against f with any fuel: place by place it does the same.
func tellsSame(t *testing.T, name string, f, g impl.Fn, reads []int) {
	t.Helper()
	for _, fuel := range smallRuns(f, reads) {
		told, how, end := impl.Run(f, reads, fuel)
		toldG, howG, endG := impl.Run(g, reads, fuel)
		if !slices.Equal(told, toldG) || how != howG || end != endG || !slices.Equal(impl.Path(f, reads, fuel), impl.Path(g, reads, fuel)) {
			t.Errorf("%s, fuel %d, reads %v: Run is %v, %d, %d, not %v, %d, %d: %+v", name, fuel, reads, toldG, howG, endG, told, how, end, f)
		}
	}
}

// tellsNoLess holds g, which may need less fuel, against f: where f comes to an end, or to a cell that is none, g does the same;
// where it has no fuel left, g has told as much at least.
func tellsNoLess(t *testing.T, name string, f, g impl.Fn, reads []int) {
	t.Helper()
	for _, fuel := range smallRuns(f, reads) {
		told, how, end := impl.Run(f, reads, fuel)
		toldG, howG, endG := impl.Run(g, reads, fuel)
		path, pathG := impl.Path(f, reads, fuel), impl.Path(g, reads, fuel)
		same := slices.Equal(told, toldG) && how == howG && end == endG && slices.Equal(path, pathG)
		if how == impl.RnFuel {
			same = isBeginning(told, toldG) && isBeginning(path, pathG)
		}
		if !same {
			t.Errorf("%s, fuel %d, reads %v: Run is %v, %d, %d, not %v, %d, %d: %+v", name, fuel, reads, toldG, howG, endG, told, how, end, f)
		}
	}
}

func wantWell(t *testing.T, name string, f impl.Fn) {
	t.Helper()
	if got := impl.Check(f); got != impl.CkWell {
		t.Errorf("%s: Check is %d: %+v", name, got, f)
	}
}

// smallPromise is promise 7 of one program that is well.
func smallPromise(t *testing.T, name string, f impl.Fn, reads []int) {
	t.Helper()
	folded, pruned := impl.Fold(f), impl.Prune(f)
	both := impl.Prune(folded)
	wantWell(t, name+": folded", folded)
	wantWell(t, name+": pruned", pruned)
	wantWell(t, name+": folded and pruned", both)
	tellsSame(t, name+": folded", f, folded, reads)
	tellsNoLess(t, name+": pruned", f, pruned, reads)
	tellsNoLess(t, name+": folded and pruned", f, both, reads)
	if impl.Cost(folded) != impl.Cost(f) || impl.Cost(pruned) > impl.Cost(f) || impl.Cost(both) > impl.Cost(pruned) {
		t.Errorf("%s: Cost is %d, folded %d, pruned %d, both %d", name, impl.Cost(f), impl.Cost(folded), impl.Cost(pruned), impl.Cost(both))
	}
	wantFn(t, name+": folded again", impl.Fold(folded), folded)
	wantFn(t, name+": pruned again", impl.Prune(pruned), pruned)
	wantFn(t, name+": folded and pruned again", impl.Prune(impl.Fold(both)), both)
	if !slices.Equal(impl.Used(pruned), impl.Used(f)) {
		t.Errorf("%s: pruned Used is %v, not %v", name, impl.Used(pruned), impl.Used(f))
	}
}

// Promise 7: folded and pruned a program tells the same, and is well.
func TestSmallPromise(t *testing.T) {
	for _, c := range smallCases() {
		for _, reads := range [][]int{c.reads, nil, {0}, {1, 1, 1}, {2, -1, 0, 4}, {8, 7, 6}} {
			smallPromise(t, c.name, c.f, reads)
		}
	}
	for _, c := range slices.Concat(runOrdinary(), runPhis(), runOdd(), runCellCases()) {
		if impl.Check(c.f) == impl.CkWell {
			smallPromise(t, c.name, c.f, c.reads)
		}
	}
}

// foldModel goes by no order: it folds whatever can be folded till there is nothing left.
func foldModel(f impl.Fn) impl.Fn {
	g := fnCopy(f)
	known := map[int]int{}
	for more := true; more; {
		more = false
		for b := range g.Blocks {
			for i, x := range g.Blocks[b].List {
				n, knownA := known[x.A]
				m, knownB := known[x.B]
				if x.Op <= impl.OpRight && knownA && knownB {
					x = insConst(x.D, wordByBig(x.Op, n, m))
					g.Blocks[b].List[i] = x
				}
				if _, seen := known[x.D]; x.Op == impl.InConst && !seen {
					known[x.D], more = x.N, true
				}
			}
		}
	}
	return g
}

// usedModel goes from who is not left out to whom they take, and on to whom these take.
func usedModel(f impl.Fn) []int {
	work := []int{}
	for _, block := range f.Blocks {
		for _, x := range block.List {
			if x.Op == impl.InStore || x.Op == impl.InOut || x.Op == impl.InLoad {
				work = append(work, impl.InsUses(x)...)
			}
		}
		work = append(work, impl.TermUses(block.Term)...)
	}
	used := []int{}
	for len(work) > 0 {
		v := work[0]
		work = work[1:]
		if slices.Contains(used, v) {
			continue
		}
		used = append(used, v)
		b, i := defModel(f, v)
		if i >= 0 {
			work = append(work, impl.InsUses(f.Blocks[b].List[i])...)
			continue
		}
		for _, p := range f.Blocks[b].Phis {
			for _, a := range p.Arms {
				if p.D == v {
					work = append(work, a.V)
				}
			}
		}
	}
	return used
}

func goneModel(f impl.Fn) []int {
	gone, used := []int{}, usedModel(f)
	for v := range f.Values {
		b, i := defModel(f, v)
		stays := i >= 0 && (f.Blocks[b].List[i].Op == impl.InRead || f.Blocks[b].List[i].Op == impl.InLoad)
		if !slices.Contains(used, v) && !stays {
			gone = append(gone, v)
		}
	}
	return gone
}

func costModel(f impl.Fn) int {
	cost := 0
	for _, block := range f.Blocks {
		for range block.Phis {
			cost++
		}
		for range block.List {
			cost++
		}
	}
	return cost
}

func smallModel(t *testing.T, name string, f impl.Fn) {
	t.Helper()
	folded := foldModel(f)
	wantFn(t, name+": Fold", impl.Fold(f), folded)
	wantUsed(t, name, f, usedModel(f))
	wantUsed(t, name+": folded", folded, usedModel(folded))
	wantFn(t, name+": Prune", impl.Prune(f), smallWithout(f, goneModel(f)))
	wantFn(t, name+": Prune of Fold", impl.Prune(folded), smallWithout(folded, goneModel(folded)))
	if got := impl.Cost(f); got != costModel(f) {
		t.Errorf("%s: Cost is %d, not %d: %+v", name, got, costModel(f), f)
	}
}

func TestSmallModelOfCases(t *testing.T) {
	for _, c := range smallCases() {
		smallModel(t, c.name, c.f)
	}
}

// smallRicher makes more of what is known: of a drawn program some places that read are made an InConst.
func smallRicher(d *drawer, f impl.Fn) impl.Fn {
	g := fnCopy(f)
	for b := range g.Blocks {
		for i, x := range g.Blocks[b].List {
			if (x.Op == impl.InRead || x.Op == impl.InLoad) && d.draw(4) > 0 {
				g.Blocks[b].List[i] = insConst(x.D, d.draw(9)-1)
			}
			if x.Op == impl.InOut && d.draw(3) == 0 {
				g.Blocks[b].List[i] = insStore(x.A, x.A)
			}
		}
	}
	return g
}

func smallDrawn(seed uint64, times int, look func(f impl.Fn, reads []int)) {
	d := &drawer{x: seed}
	wellDrawn(seed, times, func(f impl.Fn) {
		look(f, runReads(d))
		look(smallRicher(d, f), runReads(d))
	})
}

func TestSmallDrawnPrograms(t *testing.T) {
	seen, folds, gone, more := 0, 0, 0, 0
	smallDrawn(7, 60, func(f impl.Fn, _ []int) {
		smallModel(t, "drawn", f)
		seen++
		folded := impl.Fold(f)
		for b, block := range folded.Blocks {
			for i, x := range block.List {
				if x != f.Blocks[b].List[i] {
					folds++
				}
			}
		}
		gone += impl.Cost(f) - impl.Cost(impl.Prune(f))
		more += impl.Cost(impl.Prune(f)) - impl.Cost(impl.Prune(folded))
	})
	if seen < 1600 || folds < 800 || gone < 2000 || more < 300 {
		t.Error(seen, folds, gone, more)
	}
}

func TestSmallPromiseOfDrawnPrograms(t *testing.T) {
	var seen [3]int
	smallDrawn(77, 20, func(f impl.Fn, reads []int) {
		smallPromise(t, "drawn", f, reads)
		_, how, _ := impl.Run(f, reads, 300)
		seen[how]++
	})
	if seen[impl.RnDone] < 100 || seen[impl.RnFuel] < 50 || seen[impl.RnCell] < 100 {
		t.Error(seen)
	}
}

// leftAsItIs is what is answered of a program that is not well.
func leftAsItIs(t *testing.T, name string, f impl.Fn) {
	t.Helper()
	if impl.Check(f) == impl.CkWell {
		t.Fatalf("%s: nothing is wrong with %+v", name, f)
	}
	wantFn(t, name+": Fold", impl.Fold(f), f)
	wantFn(t, name+": Prune", impl.Prune(f), f)
	if got := impl.Used(f); len(got) != 0 {
		t.Errorf("%s: Used is %v: %+v", name, got, f)
	}
	cost := -1
	if impl.ShapeOk(f) {
		cost = costModel(f)
	}
	if got := impl.Cost(f); got != cost {
		t.Errorf("%s: Cost is %d, not %d: %+v", name, got, cost, f)
	}
}

// smallSpoilt is checkSpoilt with something to fold and something to prune, so that one sees what is not left as it is.
func smallSpoilt() impl.Fn {
	f := checkSpoilt()
	f.Values = 17
	addPlace(&f, 0, insAdd(12, 0, 1))
	addPlace(&f, 2, insOp(impl.OpMul, 13, 12, 12))
	addPlace(&f, 5, insOp(impl.OpSub, 14, 12, 0))
	addPlace(&f, 5, insOut(14))
	addPlace(&f, 4, insConst(16, 1))
	f.Blocks[5].Phis = append(f.Blocks[5].Phis, phiOf(15, [2]int{3, 12}, [2]int{4, 0}))
	return f
}

func smallSpoils() []checkSpoil {
	list := checkSpoils()
	list[1].spoil = func(f *impl.Fn) { addPlace(f, 0, insOut(f.Values)) }
	return append(list,
		checkSpoil{"a phi that is taken ahead of it", impl.CkTaken, func(f *impl.Fn) { addPlace(f, 0, insOut(15)) }},
		checkSpoil{"an InCopy of what is known", impl.CkShape, func(f *impl.Fn) { addPlace(f, 0, insCopy(11, 0)) }})
}

func TestSmallSpoiltIsWell(t *testing.T) {
	lookSmall(t, smallCase{"room for every mistake", smallSpoilt(), nil, 16, [][3]int{{0, 2, 2}, {2, 2, 4}, {5, 2, -1}}, []int{0, 1, 2, 3, 4, 5, 6, 12, 14}, []int{7, 13, 15, 16}, []int{7, 12, 13, 15, 16}})
}

// One program and more for each code of Check, and one for each two mistakes at once.
func TestSmallNotWell(t *testing.T) {
	var seen [7]int
	list := smallSpoils()
	for i, a := range list {
		f := smallSpoilt()
		a.spoil(&f)
		if got := impl.Check(f); got != a.code {
			t.Errorf("%s: Check is %d, not %d", a.name, got, a.code)
		}
		seen[a.code]++
		leftAsItIs(t, a.name, f)
		for _, b := range list[i+1:] {
			g := fnCopy(f)
			b.spoil(&g)
			leftAsItIs(t, a.name+", "+b.name, g)
		}
	}
	if slices.Contains(seen[1:], 0) {
		t.Errorf("a code is missing: %v", seen)
	}
}

func TestSmallNotWellElsewhere(t *testing.T) {
	for _, c := range checkCases() {
		if c.want != impl.CkWell {
			leftAsItIs(t, c.name, c.f)
		}
	}
	for _, f := range graphSpoiled() {
		leftAsItIs(t, "not ShapeOk", f)
	}
	for _, f := range []impl.Fn{fnFull(), {Values: math.MinInt}, {Values: math.MaxInt, Blocks: make([]impl.Block, 2)}} {
		leftAsItIs(t, "not well", f)
	}
	for _, op := range fnOpsNone {
		f := smallSpoilt()
		addPlace(&f, 3, impl.Ins{Op: op})
		leftAsItIs(t, "an op that is none", f)
	}
}

func TestSmallNotWellDrawn(t *testing.T) {
	d := &drawer{x: 777}
	var seen [7]int
	smallDrawn(78, 30, func(f impl.Fn, _ []int) {
		for range 4 {
			g := fnCopy(f)
			checkChange(d, g)
			code := impl.Check(g)
			seen[code]++
			if code == impl.CkWell {
				smallModel(t, "changed", g)
			} else {
				leftAsItIs(t, "changed", g)
			}
		}
	})
	for code, n := range seen {
		if n < 20 {
			t.Errorf("only %d programs of code %d: %v", n, code, seen)
		}
	}
}

// The greatest programs that there are: all of it is folded, and but the last of it is taken.
func TestSmallLimits(t *testing.T) {
	f := progOf(impl.MaxValues)
	folds, gone, n := [][3]int{}, []int{}, 1
	for b := range impl.MaxBlocks {
		f.Blocks = append(f.Blocks, blockOf(graphTo(b+1)))
		for i := range 5 {
			v := b*5 + i
			if v == 0 {
				addPlace(&f, 0, insConst(0, 1))
				continue
			}
			n += n
			addPlace(&f, b, insAdd(v, v-1, v-1))
			folds = append(folds, [3]int{b, i, n})
			gone = append(gone, v-1)
		}
	}
	f.Blocks[impl.MaxBlocks-1].Term = termBack(79)
	used := append(slices.Clone(gone), 79)
	lookSmall(t, smallCase{"all values", f, nil, 80, folds, used, nil, gone})
	smallPromise(t, "all values", f, nil)
	f.Blocks[impl.MaxBlocks-1].Term = termBack(0)
	lookSmall(t, smallCase{"all values, but for nobody", f, nil, 80, folds, []int{0}, used[1:], used[1:]})
	f.Values++
	leftAsItIs(t, "a value too many", f)
}

func TestSmallCost(t *testing.T) {
	for phis := 0; phis <= 25; phis += 5 {
		for _, places := range []int{0, 1, 23, 24, 25} {
			for _, blocks := range []int{1, 2, 15, 16, 17} {
				f := fnOf(1, blocks)
				for b := range f.Blocks {
					f.Blocks[b].Phis = make([]impl.Phi, phis)
					f.Blocks[b].List = slices.Repeat([]impl.Ins{insOut(0)}, places)
				}
				want := blocks * (phis + places)
				if blocks > 16 || phis > 24 || places > 24 {
					want = -1
				}
				if got := impl.Cost(f); got != want {
					t.Errorf("%d blocks, each %d phis and %d places: Cost is %d, not %d", blocks, phis, places, got, want)
				}
			}
		}
	}
	f := fnOf(1, 16)
	for b := range f.Blocks {
		f.Blocks[b].Phis = make([]impl.Phi, 24)
		f.Blocks[b].List = make([]impl.Ins, 24)
		for i := range f.Blocks[b].List {
			f.Blocks[b].List[i] = insCopy(0, 0)
		}
	}
	if got := impl.Cost(f); got != 768 {
		t.Errorf("Cost is %d, not 768", got)
	}
}

// fnRooms are all lists of a program, with the room behind each.
func fnRooms(f impl.Fn) []reflect.Value {
	list := []reflect.Value{reflect.ValueOf(f.Blocks)}
	for _, block := range f.Blocks {
		list = append(list, reflect.ValueOf(block.List), reflect.ValueOf(block.Phis))
		for _, p := range block.Phis {
			list = append(list, reflect.ValueOf(p.Arms))
		}
	}
	return list
}

// wantApart looks whether two lists of all these programs share memory.
func wantApart(t *testing.T, name string, programs ...impl.Fn) {
	t.Helper()
	var rooms [][2]uintptr
	for _, f := range programs {
		for _, list := range fnRooms(f) {
			if size := uintptr(list.Cap()) * list.Type().Elem().Size(); size > 0 {
				rooms = append(rooms, [2]uintptr{list.Pointer(), list.Pointer() + size})
			}
		}
	}
	slices.SortFunc(rooms, func(a, b [2]uintptr) int { return int(a[0]) - int(b[0]) })
	for i := 1; i < len(rooms); i++ {
		if rooms[i][0] < rooms[i-1][1] {
			t.Errorf("%s: two lists share memory", name)
		}
	}
}

func smallAnyPrograms() []smallCase {
	list := smallCases()
	for _, c := range checkCases() {
		list = append(list, smallCase{name: c.name, f: c.f})
	}
	for _, c := range smallSpoils() {
		f := smallSpoilt()
		c.spoil(&f)
		list = append(list, smallCase{name: c.name, f: f})
	}
	return list
}

// Promise 21: neither a program nor the spare room behind it is written into, none of it counts, and no answer shares memory with it.
func TestSmallWritesIntoNothing(t *testing.T) {
	for _, c := range smallAnyPrograms() {
		f := fnRoomy(c.f)
		before := fnCopy(fnWhole(f))
		folded, pruned, used, cost := impl.Fold(f), impl.Prune(f), impl.Used(f), impl.Cost(f)
		wantFn(t, c.name+": Fold with room", folded, impl.Fold(c.f))
		wantFn(t, c.name+": Prune with room", pruned, impl.Prune(c.f))
		if !slices.Equal(used, impl.Used(c.f)) || cost != impl.Cost(c.f) {
			t.Errorf("%s: what is behind the lists counts", c.name)
		}
		wantApart(t, c.name, f, folded, pruned, impl.Fold(f), impl.Prune(f), impl.Fold(folded), impl.Prune(pruned))
		if !reflect.DeepEqual(fnWhole(f), before) {
			t.Errorf("%s: an argument was written into", c.name)
		}
	}
}

// Lists that share memory with each other in the argument are apart in the answer.
func TestSmallAnswersAreApart(t *testing.T) {
	arms := []impl.Arm{{From: 0, V: 0}}
	list := []impl.Ins{insOut(0), insOut(0), insOut(0)}
	f := progOf(4,
		blockOf(graphTo(1), insRead(0)),
		impl.Block{Phis: []impl.Phi{{D: 1, Arms: arms}, {D: 2, Arms: arms}, {D: 3, Arms: arms}}, List: list[:2], Term: graphTo(2)},
		impl.Block{List: list, Term: graphTo(3)},
		blockOf(termBack(1), insOut(2)))
	wantWell(t, "shared lists", f)
	g := f
	g.Blocks = append(slices.Clone(f.Blocks), impl.Block{List: list, Term: termBack(0)})
	for _, f := range []impl.Fn{f, g} {
		wantApart(t, "shared lists: Fold", impl.Fold(f))
		wantApart(t, "shared lists: Prune", impl.Prune(f))
		wantApart(t, "shared lists: both", impl.Fold(f), impl.Prune(f))
	}
}

func TestSmallUsedIsNew(t *testing.T) {
	for _, c := range smallCases() {
		first := impl.Used(c.f)
		for v := range first {
			first[v] = !first[v]
		}
		wantUsed(t, c.name, c.f, c.used)
	}
}
