package tests

import (
	"math"
	"reflect"
	"slices"
	"testing"

	"loop.example/g00192/impl"
)

func insConst(d, n int) impl.Ins { return impl.Ins{Op: impl.InConst, D: d, N: n} }

func insAdd(d, a, b int) impl.Ins { return impl.Ins{Op: impl.OpAdd, D: d, A: a, B: b} }

func insOut(a int) impl.Ins { return impl.Ins{Op: impl.InOut, A: a} }

func insRead(d int) impl.Ins { return impl.Ins{Op: impl.InRead, D: d} }

func termBranch(a, to, other int) impl.Term {
	return impl.Term{Kind: impl.TmBranch, A: a, To: to, Else: other}
}

func termBack(a int) impl.Term { return impl.Term{Kind: impl.TmBack, A: a} }

func blockOf(t impl.Term, list ...impl.Ins) impl.Block { return impl.Block{List: list, Term: t} }

func withPhis(b impl.Block, phis ...impl.Phi) impl.Block {
	b.Phis = phis
	return b
}

// phiOf has the arms of pairs of From and V.
func phiOf(d int, arms ...[2]int) impl.Phi {
	p := impl.Phi{D: d}
	for _, a := range arms {
		p.Arms = append(p.Arms, impl.Arm{From: a[0], V: a[1]})
	}
	return p
}

func progOf(values int, blocks ...impl.Block) impl.Fn {
	return impl.Fn{Values: values, Blocks: blocks}
}

// A checkCase has for each value the block in which it is made, and its place.
type checkCase struct {
	name string
	f    impl.Fn
	want int
	defs [][2]int
}

var nowhere = [2]int{-1, -2}

// checkStraight goes straight on through three blocks.
func checkStraight() impl.Fn {
	return progOf(4,
		blockOf(graphTo(1), insConst(0, 7), insRead(1)),
		blockOf(graphTo(2), insAdd(2, 0, 1), insOut(2)),
		blockOf(termBack(3), insAdd(3, 2, 0)))
}

// checkJoin has a branch that joins again with a phi.
func checkJoin() impl.Fn {
	return progOf(5,
		blockOf(termBranch(0, 1, 2), insRead(0)),
		blockOf(graphTo(3), insConst(1, 1)),
		blockOf(graphTo(3), insConst(2, 2), insOut(2)),
		withPhis(blockOf(termBack(4), insAdd(4, 3, 0)), phiOf(3, [2]int{1, 1}, [2]int{2, 2})))
}

// checkLoop has phis that take an arm from behind.
func checkLoop() impl.Fn {
	return progOf(7,
		blockOf(graphTo(1), insConst(0, 3), insConst(1, 1), insConst(2, 0)),
		withPhis(blockOf(termBranch(3, 2, 3)), phiOf(3, [2]int{0, 0}, [2]int{2, 5}), phiOf(4, [2]int{0, 2}, [2]int{2, 6})),
		blockOf(graphTo(1), insOut(3), impl.Ins{Op: impl.OpSub, D: 5, A: 3, B: 1}, insAdd(6, 4, 3)),
		blockOf(termBack(4)))
}

// checkNest has a loop in a loop.
func checkNest() impl.Fn {
	return progOf(8,
		blockOf(graphTo(1), insRead(0), insConst(1, -1)),
		withPhis(blockOf(termBranch(2, 2, 5)), phiOf(2, [2]int{0, 0}, [2]int{4, 6})),
		withPhis(blockOf(termBranch(3, 3, 4)), phiOf(3, [2]int{1, 2}, [2]int{3, 4})),
		blockOf(graphTo(2), insAdd(4, 3, 1), insOut(4)),
		blockOf(graphTo(1), insAdd(6, 2, 1)),
		blockOf(termBack(5), insAdd(5, 2, 0), insOut(0)))
}

func checkOrdinary() []checkCase {
	return []checkCase{
		{"straight on", checkStraight(), impl.CkWell, [][2]int{{0, 0}, {0, 1}, {1, 0}, {2, 0}}},
		{"a branch that joins", checkJoin(), impl.CkWell, [][2]int{{0, 0}, {1, 0}, {2, 0}, {3, -1}, {3, 0}}},
		{"a loop", checkLoop(), impl.CkWell, [][2]int{{0, 0}, {0, 1}, {0, 2}, {1, -1}, {1, -1}, {2, 1}, {2, 2}}},
		{"a loop in a loop", checkNest(), impl.CkWell, [][2]int{{0, 0}, {0, 1}, {1, -1}, {2, -1}, {3, 0}, {5, 0}, {4, 0}, nowhere}},
	}
}

// checkWhere are the edges of where a value is made and where it is taken.
func checkWhere() []checkCase {
	one := insConst(0, 1)
	return []checkCase{
		{"one block alone that takes what is nowhere", progOf(1, blockOf(termBack(0))), impl.CkTaken, [][2]int{nowhere}},
		{"one block without places that goes back to itself", progOf(0, blockOf(graphTo(0))), impl.CkEntry, nil},
		{"one block alone with a place", progOf(1, blockOf(termBack(0), one)), impl.CkWell, [][2]int{{0, 0}}},
		{"a place takes what a phi of its block makes", progOf(3, blockOf(graphTo(1), one), withPhis(blockOf(termBack(2), insAdd(2, 1, 1)), phiOf(1, [2]int{0, 0}))), impl.CkWell, [][2]int{{0, 0}, {1, -1}, {1, 0}}},
		{"a Term takes what a phi of its block makes", progOf(2, blockOf(graphTo(1), one), withPhis(blockOf(termBack(1)), phiOf(1, [2]int{0, 0}))), impl.CkWell, [][2]int{{0, 0}, {1, -1}}},
		{"a Term takes what the last place makes", progOf(2, blockOf(termBack(1), one, insAdd(1, 0, 0))), impl.CkWell, [][2]int{{0, 0}, {0, 1}}},
		{"a branch takes what its block makes", progOf(1, blockOf(termBranch(0, 1, 1), one), blockOf(termBack(0))), impl.CkWell, [][2]int{{0, 0}}},
		{"a place takes what it makes", progOf(2, blockOf(termBack(0), one, insAdd(1, 0, 1))), impl.CkTaken, [][2]int{{0, 0}, {0, 1}}},
		{"a place takes twice what it makes", progOf(1, blockOf(termBack(0), insAdd(0, 0, 0))), impl.CkTaken, [][2]int{{0, 0}}},
		{"a load takes what it makes", progOf(1, blockOf(termBack(0), impl.Ins{Op: impl.InLoad})), impl.CkTaken, [][2]int{{0, 0}}},
		{"made behind the place that takes it", progOf(2, blockOf(termBack(0), insOut(0), one)), impl.CkTaken, [][2]int{{0, 1}, nowhere}},
		{"A is made behind, B ahead", progOf(3, blockOf(termBack(0), one, insAdd(1, 2, 0), insRead(2))), impl.CkTaken, [][2]int{{0, 0}, {0, 1}, {0, 2}}},
		{"B is made behind, A ahead", progOf(3, blockOf(termBack(0), one, insAdd(1, 0, 2), insRead(2))), impl.CkTaken, [][2]int{{0, 0}, {0, 1}, {0, 2}}},
		{"a store takes B that is nowhere", progOf(2, blockOf(termBack(0), one, impl.Ins{Op: impl.InStore, A: 0, B: 1})), impl.CkTaken, [][2]int{{0, 0}, nowhere}},
		{"a store takes A that is nowhere", progOf(2, blockOf(termBack(0), one, impl.Ins{Op: impl.InStore, A: 1, B: 0})), impl.CkTaken, [][2]int{{0, 0}, nowhere}},
		{"made in the next block", progOf(1, blockOf(graphTo(1), insOut(0)), blockOf(termBack(0), one)), impl.CkTaken, [][2]int{{1, 0}}},
		{"made in a block that does not dominate", progOf(2, blockOf(termBranch(0, 1, 2), one), blockOf(graphTo(2), insConst(1, 2)), blockOf(termBack(1))), impl.CkTaken, [][2]int{{0, 0}, {1, 0}}},
		{"made by a phi of a block that does not dominate", progOf(2, blockOf(termBranch(0, 1, 2), one), withPhis(blockOf(graphTo(2)), phiOf(1, [2]int{0, 0})), blockOf(termBack(1))), impl.CkTaken, [][2]int{{0, 0}, {1, -1}}},
		{"made in both blocks that come", progOf(2, blockOf(termBranch(0, 1, 2), one), blockOf(graphTo(3), insConst(1, 2)), blockOf(graphTo(3), insConst(1, 3)), blockOf(termBack(1))), impl.CkTwice, [][2]int{{0, 0}, {1, 0}}},
		{"made in a block of a greater number that dominates", progOf(2, blockOf(graphTo(2), one), blockOf(termBack(1)), blockOf(graphTo(1), insConst(1, 5))), impl.CkWell, [][2]int{{0, 0}, {2, 0}}},
		{"taken in its own block on the way round a loop", progOf(2, blockOf(graphTo(1), one), blockOf(graphTo(1), insOut(1), insConst(1, 4))), impl.CkTaken, [][2]int{{0, 0}, {1, 1}}},
		{"a Term takes what is nowhere", progOf(2, blockOf(termBranch(1, 1, 1), one), blockOf(termBack(0))), impl.CkTaken, [][2]int{{0, 0}, nowhere}},
	}
}

// checkArms are the edges of phis and their arms.
func checkArms() []checkCase {
	one := insConst(0, 1)
	loop := func(values int, p impl.Phi, list ...impl.Ins) impl.Fn {
		return progOf(values, blockOf(graphTo(1), one), withPhis(blockOf(termBranch(0, 2, 3)), p), blockOf(graphTo(1), list...), blockOf(termBack(0)))
	}
	join := func(p impl.Phi) impl.Fn {
		f := checkJoin()
		f.Blocks[3].Phis[0] = p
		return f
	}
	joinDefs := [][2]int{{0, 0}, {1, 0}, {2, 0}, {3, -1}, {3, 0}}
	return []checkCase{
		{"an arm takes what is made in From", loop(3, phiOf(1, [2]int{0, 0}, [2]int{2, 2}), insConst(2, 5)), impl.CkWell, [][2]int{{0, 0}, {1, -1}, {2, 0}}},
		{"an arm takes what dominates From", loop(2, phiOf(1, [2]int{0, 0}, [2]int{2, 0})), impl.CkWell, [][2]int{{0, 0}, {1, -1}}},
		{"the arm from ahead takes what is made further on in the loop", loop(3, phiOf(1, [2]int{0, 2}, [2]int{2, 0}), insConst(2, 5)), impl.CkTaken, [][2]int{{0, 0}, {1, -1}, {2, 0}}},
		{"an arm from behind takes its own phi", loop(2, phiOf(1, [2]int{0, 0}, [2]int{2, 1})), impl.CkWell, [][2]int{{0, 0}, {1, -1}}},
		{"an arm from ahead takes its own phi", loop(2, phiOf(1, [2]int{0, 1}, [2]int{2, 0})), impl.CkTaken, [][2]int{{0, 0}, {1, -1}}},
		{"an arm takes what is nowhere", loop(3, phiOf(1, [2]int{0, 0}, [2]int{2, 2})), impl.CkTaken, [][2]int{{0, 0}, {1, -1}, nowhere}},
		{"an arm takes what is made in its own block alone", progOf(3, blockOf(graphTo(1), one), withPhis(blockOf(termBack(2), insConst(2, 2)), phiOf(1, [2]int{0, 2}))), impl.CkTaken, [][2]int{{0, 0}, {1, -1}, {1, 0}}},
		{"a block that follows itself: the arm takes what it makes", progOf(3, blockOf(graphTo(1), one), withPhis(blockOf(termBranch(1, 1, 2), insAdd(2, 1, 0)), phiOf(1, [2]int{1, 2}, [2]int{0, 0})), blockOf(termBack(2))), impl.CkWell, [][2]int{{0, 0}, {1, -1}, {1, 0}}},
		{"a block that follows itself: the arm takes its phi", progOf(2, blockOf(graphTo(1), one), withPhis(blockOf(graphTo(1)), phiOf(1, [2]int{0, 0}, [2]int{1, 1}))), impl.CkWell, [][2]int{{0, 0}, {1, -1}}},
		{"phis that take one another from behind", progOf(3, blockOf(graphTo(1), one), withPhis(blockOf(graphTo(1)), phiOf(1, [2]int{0, 0}, [2]int{1, 2}), phiOf(2, [2]int{0, 0}, [2]int{1, 1}))), impl.CkWell, [][2]int{{0, 0}, {1, -1}, {1, -1}}},
		{"a phi takes another one of its block from ahead", progOf(3, blockOf(graphTo(1), one), withPhis(blockOf(termBack(2)), phiOf(1, [2]int{0, 0}), phiOf(2, [2]int{0, 1}))), impl.CkTaken, [][2]int{{0, 0}, {1, -1}, {1, -1}}},
		{"arms in another order than Preds", join(phiOf(3, [2]int{2, 2}, [2]int{1, 1})), impl.CkWell, joinDefs},
		{"arms whose values are changed about", join(phiOf(3, [2]int{1, 2}, [2]int{2, 1})), impl.CkTaken, joinDefs},
		{"no arm", join(phiOf(3)), impl.CkArms, joinDefs},
		{"one arm too few, the first", join(phiOf(3, [2]int{1, 1})), impl.CkArms, joinDefs},
		{"one arm too few, the last", join(phiOf(3, [2]int{2, 2})), impl.CkArms, joinDefs},
		{"one arm too many", join(phiOf(3, [2]int{0, 0}, [2]int{1, 1}, [2]int{2, 2})), impl.CkArms, joinDefs},
		{"one arm too many, from the block itself", join(phiOf(3, [2]int{1, 1}, [2]int{2, 2}, [2]int{3, 3})), impl.CkArms, joinDefs},
		{"as many arms, but one from elsewhere", join(phiOf(3, [2]int{1, 1}, [2]int{0, 0})), impl.CkArms, joinDefs},
		{"an arm twice", join(phiOf(3, [2]int{1, 1}, [2]int{1, 1})), impl.CkShape, [][2]int{nowhere, nowhere, nowhere, nowhere, nowhere}},
		{"an arm twice beside all others", join(phiOf(3, [2]int{1, 1}, [2]int{2, 2}, [2]int{1, 1})), impl.CkShape, [][2]int{nowhere, nowhere, nowhere, nowhere, nowhere}},
		{"one arm where both ways of a branch come", progOf(2, blockOf(termBranch(0, 1, 1), one), withPhis(blockOf(termBack(1)), phiOf(1, [2]int{0, 0}))), impl.CkWell, [][2]int{{0, 0}, {1, -1}}},
		{"the second phi has an arm too few", progOf(3, blockOf(graphTo(1), one), withPhis(blockOf(termBack(1)), phiOf(1, [2]int{0, 0}), phiOf(2))), impl.CkArms, [][2]int{{0, 0}, {1, -1}, {1, -1}}},
	}
}

// checkTwice are values that are made more than once, and what is wrong at the beginning.
func checkTwice() []checkCase {
	one := insConst(0, 1)
	all := [2]int{0, 0}
	return []checkCase{
		{"made by two phis", progOf(2, blockOf(graphTo(1), one), withPhis(blockOf(termBack(1)), phiOf(1, all), phiOf(1, all))), impl.CkTwice, [][2]int{{0, 0}, {1, -1}}},
		{"made by two phis of two blocks", progOf(2, blockOf(graphTo(1), one), withPhis(blockOf(graphTo(2)), phiOf(1, all)), withPhis(blockOf(termBack(1)), phiOf(1, [2]int{1, 0}))), impl.CkTwice, [][2]int{{0, 0}, {1, -1}}},
		{"made by a phi and a place of its block", progOf(2, blockOf(graphTo(1), one), withPhis(blockOf(termBack(1), insConst(1, 2)), phiOf(1, all))), impl.CkTwice, [][2]int{{0, 0}, {1, -1}}},
		{"made by a place and a phi further on", progOf(1, blockOf(graphTo(1), one), withPhis(blockOf(termBack(0)), phiOf(0, all))), impl.CkTwice, [][2]int{{0, 0}}},
		{"made by a phi and a place further on", progOf(2, blockOf(graphTo(1), one), withPhis(blockOf(graphTo(2)), phiOf(1, all)), blockOf(termBack(1), insRead(1))), impl.CkTwice, [][2]int{{0, 0}, {1, -1}}},
		{"made by two places of one block", progOf(2, blockOf(termBack(1), one, insRead(1), insConst(1, 3))), impl.CkTwice, [][2]int{{0, 0}, {0, 1}}},
		{"made by two places of two blocks", progOf(2, blockOf(graphTo(1), insRead(1), one), blockOf(termBack(0), insRead(0))), impl.CkTwice, [][2]int{{0, 1}, {0, 0}}},
		{"made twice and never taken", progOf(2, blockOf(termBack(0), one, insRead(1), insRead(1))), impl.CkTwice, [][2]int{{0, 0}, {0, 1}}},
		{"the first by blocks, not by the way", progOf(2, blockOf(graphTo(2), one), blockOf(termBack(0), insRead(1)), blockOf(graphTo(1), insOut(0), insRead(1))), impl.CkTwice, [][2]int{{0, 0}, {1, 0}}},
		{"an InCopy", progOf(2, blockOf(termBack(1), one, impl.Ins{Op: impl.InCopy, D: 1, A: 0})), impl.CkShape, [][2]int{{0, 0}, {0, 1}}},
		{"an InCopy in a block that is not reached", progOf(2, blockOf(termBack(0), one), blockOf(termBack(0), impl.Ins{Op: impl.InCopy, D: 1, A: 1})), impl.CkShape, [][2]int{{0, 0}, {1, 0}}},
		{"a block that is not reached", progOf(2, blockOf(termBack(0), one), blockOf(termBack(0), insRead(1))), impl.CkDead, [][2]int{{0, 0}, {1, 0}}},
		{"a block that but itself goes to", progOf(1, blockOf(graphTo(2), one), blockOf(graphTo(1)), blockOf(termBack(0))), impl.CkDead, [][2]int{{0, 0}}},
		{"a phi in block 0", progOf(2, withPhis(blockOf(termBack(0), one), phiOf(1))), impl.CkEntry, [][2]int{{0, 0}, {0, -1}}},
		{"a way back to block 0", progOf(1, blockOf(graphTo(1), one), blockOf(termBranch(0, 2, 0)), blockOf(termBack(0))), impl.CkEntry, [][2]int{{0, 0}}},
		{"block 0 follows itself, with a phi that is right", progOf(2, withPhis(blockOf(graphTo(0), one), phiOf(1, [2]int{0, 0}))), impl.CkEntry, [][2]int{{0, 0}, {0, -1}}},
	}
}

func checkCases() []checkCase {
	return slices.Concat(checkOrdinary(), checkWhere(), checkArms(), checkTwice())
}

func lookCheck(t *testing.T, c checkCase) {
	t.Helper()
	if got := impl.Check(c.f); got != c.want {
		t.Errorf("%s: Check is %d, not %d: %+v", c.name, got, c.want, c.f)
	}
	for v, want := range c.defs {
		if b, i := impl.DefAt(c.f, v); b != want[0] || i != want[1] {
			t.Errorf("%s: DefAt of %d is %d, %d, not %v: %+v", c.name, v, b, i, want, c.f)
		}
	}
	for _, v := range append([]int{len(c.defs), len(c.defs) + 1, 80, 1 << 32}, fnFar...) {
		if b, i := impl.DefAt(c.f, v); b != -1 || i != -2 {
			t.Errorf("%s: DefAt of %d is %d, %d", c.name, v, b, i)
		}
	}
}

func TestCheckNumbers(t *testing.T) {
	got := []int{impl.CkWell, impl.CkShape, impl.CkDead, impl.CkEntry, impl.CkArms, impl.CkTwice, impl.CkTaken}
	if !slices.Equal(got, []int{0, 1, 2, 3, 4, 5, 6}) {
		t.Error(got)
	}
}

func TestCheckOrdinary(t *testing.T) {
	for _, c := range checkOrdinary() {
		lookCheck(t, c)
	}
}

func TestCheckWhereTaken(t *testing.T) {
	for _, c := range checkWhere() {
		lookCheck(t, c)
	}
}

func TestCheckArms(t *testing.T) {
	for _, c := range checkArms() {
		lookCheck(t, c)
	}
}

func TestCheckTwiceAndFirst(t *testing.T) {
	for _, c := range checkTwice() {
		lookCheck(t, c)
	}
}

// One block with no place is well where it can take nothing: it has to jump, and that is to itself; so none is.
func TestCheckOneBlockWithNoPlace(t *testing.T) {
	for values := 0; values <= 2; values++ {
		for _, end := range []impl.Term{graphTo(0), termBranch(0, 0, 0), termBack(0)} {
			f := progOf(values, blockOf(end))
			want := impl.CkEntry
			if !impl.ShapeOk(f) {
				want = impl.CkShape
			} else if end.Kind == impl.TmBack {
				want = impl.CkTaken
			}
			lookCheck(t, checkCase{"one block", f, want, slices.Repeat([][2]int{nowhere}, values)})
		}
	}
}

// A checkSpoil makes one mistake in checkSpoilt, whatever other mistakes there are.
type checkSpoil struct {
	name  string
	code  int
	spoil func(f *impl.Fn)
}

// checkSpoilt is well, and has room for every mistake: a loop, and behind it a block that joins two.
func checkSpoilt() impl.Fn {
	return progOf(12,
		blockOf(graphTo(1), insConst(0, 3), insConst(1, -1)),
		withPhis(blockOf(termBranch(2, 2, 3)), phiOf(2, [2]int{0, 0}, [2]int{2, 3})),
		blockOf(graphTo(1), insAdd(3, 2, 1), insOut(3)),
		blockOf(termBranch(4, 4, 5), insRead(4)),
		blockOf(graphTo(5), insAdd(5, 4, 2)),
		withPhis(blockOf(termBack(6), insOut(6), insAdd(7, 6, 4)), phiOf(6, [2]int{3, 4}, [2]int{4, 5})))
}

func addPlace(f *impl.Fn, b int, x impl.Ins) { f.Blocks[b].List = append(f.Blocks[b].List, x) }

func checkSpoils() []checkSpoil {
	return []checkSpoil{
		{"an op that is none", impl.CkShape, func(f *impl.Fn) { addPlace(f, 5, impl.Ins{Op: 11}) }},
		{"a value beyond the last", impl.CkShape, func(f *impl.Fn) { addPlace(f, 0, insOut(12)) }},
		{"an InCopy", impl.CkShape, func(f *impl.Fn) { addPlace(f, 5, impl.Ins{Op: impl.InCopy, D: 10, A: 6}) }},
		{"a block that is not reached", impl.CkDead, func(f *impl.Fn) { f.Blocks = append(f.Blocks, blockOf(termBack(0))) }},
		{"two blocks that follow one another alone", impl.CkDead, func(f *impl.Fn) {
			n := len(f.Blocks)
			f.Blocks = append(f.Blocks, blockOf(graphTo(n+1)), blockOf(graphTo(n)))
		}},
		{"a phi in block 0", impl.CkEntry, func(f *impl.Fn) { f.Blocks[0].Phis = []impl.Phi{phiOf(8)} }},
		{"a way back to block 0", impl.CkEntry, func(f *impl.Fn) { f.Blocks[5].Term = termBranch(6, 0, 0) }},
		{"a phi with an arm too few", impl.CkArms, func(f *impl.Fn) { f.Blocks[5].Phis[0].Arms = f.Blocks[5].Phis[0].Arms[1:] }},
		{"a phi with an arm too many", impl.CkArms, func(f *impl.Fn) {
			f.Blocks[1].Phis[0].Arms = append(f.Blocks[1].Phis[0].Arms, impl.Arm{From: 1, V: 2})
		}},
		{"made by a place and a place", impl.CkTwice, func(f *impl.Fn) { addPlace(f, 4, insConst(7, 1)) }},
		{"made by a phi and a place", impl.CkTwice, func(f *impl.Fn) { addPlace(f, 2, insRead(6)) }},
		{"taken behind a branch", impl.CkTaken, func(f *impl.Fn) { addPlace(f, 5, insOut(5)) }},
		{"taken nowhere made", impl.CkTaken, func(f *impl.Fn) { addPlace(f, 3, insOut(9)) }},
		{"taken by an arm", impl.CkTaken, func(f *impl.Fn) { f.Blocks[5].Phis[0].Arms[0].V = 6 }},
	}
}

// Each mistake alone, each two of them, and each three, in every order in which they are made: the first code is told.
func TestCheckFirstOfSeveral(t *testing.T) {
	if got := impl.Check(checkSpoilt()); got != impl.CkWell {
		t.Fatalf("Check is %d", got)
	}
	list := checkSpoils()
	for i := range list {
		for j := range list {
			for k := range list {
				checkSpoiltBy(t, list, i, j, k)
			}
		}
	}
}

// checkSpoiltBy makes each of these mistakes once, even where it is named twice.
func checkSpoiltBy(t *testing.T, list []checkSpoil, which ...int) {
	t.Helper()
	f, want, names := checkSpoilt(), math.MaxInt, []string{}
	for i, w := range which {
		if slices.Index(which, w) == i {
			list[w].spoil(&f)
			want = min(want, list[w].code)
			names = append(names, list[w].name)
		}
	}
	if got := impl.Check(f); got != want {
		t.Errorf("%v: Check is %d, not %d: %+v", names, got, want, f)
	}
}

// checkUnmade has for each block the values that may be unmade at its beginning, by some way from block 0:
// it goes by ways, and asks nothing of who dominates whom.
func checkUnmade(f impl.Fn, succs [][]int) [][]bool {
	unmade := make([][]bool, len(f.Blocks))
	for b := range unmade {
		unmade[b] = make([]bool, f.Values)
	}
	for v := range f.Values {
		work := []int{0}
		for len(work) > 0 {
			b := work[0]
			work = work[1:]
			if unmade[b][v] {
				continue
			}
			unmade[b][v] = true
			if !slices.Contains(checkMakes(f.Blocks[b]), v) {
				work = append(work, succs[b]...)
			}
		}
	}
	return unmade
}

func checkMakes(b impl.Block) []int {
	list := []int{}
	for _, p := range b.Phis {
		list = append(list, p.D)
	}
	for _, x := range b.List {
		if x.Op != impl.InStore && x.Op != impl.InOut {
			list = append(list, x.D)
		}
	}
	return list
}

// checkTakes tells whether a value is taken that was not made, on some way.
func checkTakes(f impl.Fn, succs [][]int) bool {
	start := checkUnmade(f, succs)
	bad := false
	for b, block := range f.Blocks {
		unmade := slices.Clone(start[b])
		for _, p := range block.Phis {
			unmade[p.D] = false
			for _, a := range p.Arms {
				bad = bad || start[a.From][a.V] && !slices.Contains(checkMakes(f.Blocks[a.From]), a.V)
			}
		}
		for _, x := range block.List {
			for _, v := range impl.InsUses(x) {
				bad = bad || unmade[v]
			}
			if d := impl.InsDef(x); d >= 0 {
				unmade[d] = false
			}
		}
		for _, v := range impl.TermUses(block.Term) {
			bad = bad || unmade[v]
		}
	}
	return bad
}

func checkModel(f impl.Fn) int {
	copies := 0
	for _, b := range f.Blocks {
		for _, x := range b.List {
			if x.Op == impl.InCopy {
				copies++
			}
		}
	}
	if !impl.ShapeOk(f) || copies > 0 {
		return impl.CkShape
	}
	g := graphModel(f)
	if len(g.reached) < len(f.Blocks) {
		return impl.CkDead
	}
	if len(f.Blocks[0].Phis) > 0 || len(g.preds[0]) > 0 {
		return impl.CkEntry
	}
	made := make([]int, f.Values)
	arms, twice := false, false
	for b, block := range f.Blocks {
		for _, p := range block.Phis {
			froms := map[int]bool{}
			for _, a := range p.Arms {
				froms[a.From] = true
				arms = arms || !slices.Contains(g.preds[b], a.From)
			}
			arms = arms || len(froms) != len(g.preds[b])
		}
		for _, v := range checkMakes(block) {
			made[v]++
			twice = twice || made[v] > 1
		}
	}
	switch {
	case arms:
		return impl.CkArms
	case twice:
		return impl.CkTwice
	case checkTakes(f, g.succs):
		return impl.CkTaken
	}
	return impl.CkWell
}

func defModel(f impl.Fn, v int) (int, int) {
	for b, block := range f.Blocks {
		for _, p := range block.Phis {
			if p.D == v {
				return b, -1
			}
		}
		for i, x := range block.List {
			if x.D == v && x.Op != impl.InStore && x.Op != impl.InOut {
				return b, i
			}
		}
	}
	return -1, -2
}

func lookModel(t *testing.T, f impl.Fn) int {
	t.Helper()
	want := checkModel(f)
	if got := impl.Check(f); got != want {
		t.Errorf("Check is %d, not %d: %+v", got, want, f)
	}
	for v := range f.Values {
		b, i := impl.DefAt(f, v)
		if c, j := defModel(f, v); impl.ShapeOk(f) && (b != c || i != j) {
			t.Errorf("DefAt of %d is %d, %d, not %d, %d: %+v", v, b, i, c, j, f)
		}
	}
	return want
}

func TestCheckModelOfCases(t *testing.T) {
	for _, c := range checkCases() {
		if got := lookModel(t, c.f); got != c.want {
			t.Errorf("%s: the model tells %d, not %d", c.name, got, c.want)
		}
	}
}

// A drawer draws numbers that look like chance, and are the same each time.
type drawer struct{ x uint64 }

func (d *drawer) draw(n int) int {
	d.x = d.x*6364136223846793005 + 1442695040888963407
	return int(d.x>>33) % n
}

// wellEnds has n blocks that are all reached, and block 0 never again; what they go to is told by their places in a row.
func wellEnds(d *drawer, n int) []impl.Term {
	row := make([]int, n)
	for i := range row {
		row[i] = i
	}
	for i := n - 1; i > 1 && d.draw(2) == 0; i-- {
		j := 1 + d.draw(i)
		row[i], row[j] = row[j], row[i]
	}
	ends := make([]impl.Term, n)
	for i, b := range row {
		switch {
		case i == n-1 && (n == 1 || d.draw(4) > 0):
			ends[b] = graphEnd
		case i == n-1:
			ends[b] = graphFork(row[1+d.draw(n-1)], row[1+d.draw(n-1)])
		case d.draw(5) < 2:
			ends[b] = graphTo(row[i+1])
		case d.draw(2) == 0:
			ends[b] = graphFork(row[i+1], row[1+d.draw(n-1)])
		default:
			ends[b] = graphFork(row[1+d.draw(n-1)], row[i+1])
		}
	}
	return ends
}

// A wellMaker makes programs that are well: it draws what each block makes, and then takes only what every way has made.
type wellMaker struct {
	d    *drawer
	f    impl.Fn
	g    graphCase
	doms [][]int
	next int
}

var wellOps = []int{impl.OpAdd, impl.OpSub, impl.OpMul, impl.OpAnd, impl.OpOr, impl.OpXor, impl.OpLess, impl.OpSame, impl.OpLeft, impl.OpRight}

func (m *wellMaker) value() int {
	m.next++
	return m.next - 1
}

// makes fills a block with phis and places, their arms and what they take still open.
func (m *wellMaker) makes(b, most int) {
	block := &m.f.Blocks[b]
	if b == 0 {
		block.List = append(block.List, insConst(m.value(), m.d.draw(7)-2))
	}
	for range m.d.draw(most + 1) {
		if b > 0 && m.d.draw(2) == 0 {
			p := impl.Phi{D: m.value()}
			for _, from := range m.g.preds[b] {
				p.Arms = append(p.Arms, impl.Arm{From: from})
			}
			block.Phis = append(block.Phis, p)
		}
	}
	for range m.d.draw(most + 1) {
		x := impl.Ins{Op: wellOps[m.d.draw(len(wellOps))]}
		switch m.d.draw(10) {
		case 0, 1:
			x = impl.Ins{Op: impl.InConst, N: m.d.draw(11) - 3}
		case 2:
			x = impl.Ins{Op: impl.InLoad}
		case 3:
			x = impl.Ins{Op: impl.InStore}
		case 4, 5:
			x = impl.Ins{Op: impl.InOut}
		case 6:
			x = impl.Ins{Op: impl.InRead}
		}
		if x.Op != impl.InStore && x.Op != impl.InOut {
			x.D = m.value()
		}
		block.List = append(block.List, x)
	}
}

// made are the values that stand ready ahead of place i of block b.
func (m *wellMaker) made(b, i int) []int {
	list := []int{}
	for _, a := range m.doms[b] {
		if a != b {
			list = append(list, checkMakes(m.f.Blocks[a])...)
		}
	}
	block := m.f.Blocks[b]
	block.List = block.List[:i]
	return append(list, checkMakes(block)...)
}

func (m *wellMaker) take(b, i int) int {
	list := m.made(b, i)
	if m.d.draw(2) == 0 {
		return list[len(list)-1]
	}
	return list[m.d.draw(len(list))]
}

func (m *wellMaker) takes(b int) {
	block := &m.f.Blocks[b]
	for i, p := range block.Phis {
		for j, a := range p.Arms {
			block.Phis[i].Arms[j].V = m.take(a.From, len(m.f.Blocks[a.From].List))
		}
		if m.d.draw(2) == 0 {
			slices.Reverse(p.Arms)
		}
	}
	for i, x := range block.List {
		uses := len(impl.InsUses(x))
		if uses > 0 {
			block.List[i].A = m.take(b, i)
		}
		if uses > 1 {
			block.List[i].B = m.take(b, i)
		}
	}
	if block.Term.Kind != impl.TmJump {
		block.Term.A = m.take(b, len(block.List))
	}
}

func wellOf(d *drawer, n, most int) impl.Fn {
	m := &wellMaker{d: d, f: graphOf(wellEnds(d, n)...)}
	m.g, m.doms = graphModel(m.f), domModel(m.f).doms
	for b := range n {
		m.makes(b, most)
	}
	for b := range n {
		m.takes(b)
	}
	m.f.Values = m.next
	return m.f
}

// wellDrawn looks at programs of one to MaxBlocks blocks that are well.
func wellDrawn(seed uint64, times int, look func(f impl.Fn)) {
	d := &drawer{x: seed}
	for n := 1; n <= impl.MaxBlocks; n++ {
		for range times {
			f := wellOf(d, n, 1+d.draw(min(5, 40/n)))
			if f.Values <= impl.MaxValues {
				look(f)
			}
		}
	}
}

func TestCheckDrawnPrograms(t *testing.T) {
	seen := 0
	wellDrawn(5, 60, func(f impl.Fn) {
		seen++
		if got := lookModel(t, f); got != impl.CkWell {
			t.Errorf("the model tells %d: %+v", got, f)
		}
	})
	if seen < 800 {
		t.Errorf("only %d programs", seen)
	}
}

// checkChange changes one number of a program, so that most of what comes is not well.
func checkChange(d *drawer, f impl.Fn) {
	block := &f.Blocks[d.draw(len(f.Blocks))]
	v := d.draw(f.Values)
	switch d.draw(6) {
	case 0:
		block.Term.A = v
	case 1:
		block.Term.To = d.draw(len(f.Blocks))
	case 2, 3:
		if len(block.List) > 0 {
			x := &block.List[d.draw(len(block.List))]
			switch d.draw(3) {
			case 0:
				x.A = v
			case 1:
				x.B = v
			default:
				x.D = v
			}
		}
	default:
		if len(block.Phis) > 0 {
			p := &block.Phis[d.draw(len(block.Phis))]
			a := &p.Arms[d.draw(len(p.Arms))]
			switch d.draw(3) {
			case 0:
				a.V = v
			case 1:
				p.D = v
			default:
				a.From = d.draw(len(f.Blocks))
			}
		}
	}
}

func TestCheckChangedPrograms(t *testing.T) {
	d := &drawer{x: 55}
	var seen [7]int
	wellDrawn(6, 60, func(f impl.Fn) {
		for range 8 {
			g := fnCopy(f)
			for range 1 + d.draw(2) {
				checkChange(d, g)
			}
			seen[lookModel(t, g)]++
		}
	})
	for code, n := range seen {
		if n < 20 {
			t.Errorf("only %d programs of code %d: %v", n, code, seen)
		}
	}
}

// Every program of two or three blocks with few values, all made once somewhere: the look agrees with the ways.
func TestCheckSmallPrograms(t *testing.T) {
	var seen [7]int
	for n := 1; n <= 3; n++ {
		graphEach(n, func(f impl.Fn) {
			for at := range n {
				for takes := range n {
					g := fnCopy(f)
					g.Values = 4
					g.Blocks[0].List = []impl.Ins{insConst(0, 1), insConst(1, 0)}
					addPlace(&g, at, insConst(2, 5))
					g.Blocks[takes].List = slices.Insert(g.Blocks[takes].List, 0, insOut(2))
					seen[lookModel(t, g)]++
					g = fnCopy(f)
					g.Values = 4
					g.Blocks[0].List = []impl.Ins{insConst(0, 1), insConst(1, 0)}
					addPlace(&g, at, insConst(2, 5))
					p := impl.Phi{D: 3}
					for _, from := range graphModel(f).preds[takes] {
						p.Arms = append(p.Arms, impl.Arm{From: from, V: 2})
					}
					g.Blocks[takes].Phis = []impl.Phi{p}
					seen[lookModel(t, g)]++
				}
			}
		})
	}
	if seen[impl.CkWell] < 100 || seen[impl.CkTaken] < 100 || seen[impl.CkDead] < 100 || seen[impl.CkEntry] < 100 {
		t.Error(seen)
	}
}

// checkWay goes through a program that is well by a way that is drawn: each value is made once in its text,
// and whatever is taken was made on that way.
func checkWay(t *testing.T, d *drawer, f impl.Fn) {
	t.Helper()
	made := make([]bool, f.Values)
	take := func(list ...int) {
		for _, v := range list {
			if !made[v] {
				t.Errorf("%d is taken, but was not made: %+v", v, f)
			}
		}
	}
	from, b := -1, 0
	for range 40 {
		block := f.Blocks[b]
		for _, p := range block.Phis {
			at := slices.IndexFunc(p.Arms, func(a impl.Arm) bool { return a.From == from })
			if at < 0 {
				t.Fatalf("no arm from %d in block %d: %+v", from, b, f)
			}
			take(p.Arms[at].V)
		}
		for _, p := range block.Phis {
			made[p.D] = true
		}
		for _, x := range block.List {
			take(impl.InsUses(x)...)
			if v := impl.InsDef(x); v >= 0 {
				made[v] = true
			}
		}
		take(impl.TermUses(block.Term)...)
		next := impl.Succs(f, b)
		if len(next) == 0 {
			return
		}
		from, b = b, next[d.draw(len(next))]
	}
}

func checkPromise(t *testing.T, d *drawer, f impl.Fn) {
	t.Helper()
	made := []int{}
	for _, block := range f.Blocks {
		made = append(made, checkMakes(block)...)
	}
	sorted := slices.Sorted(slices.Values(made))
	if len(slices.Compact(sorted)) != len(made) {
		t.Errorf("a value is made twice: %+v", f)
	}
	for range 5 {
		checkWay(t, d, f)
	}
}

// Promise 5: of a program that is well each value is made once, and taken where it was made.
func TestCheckPromise(t *testing.T) {
	d := &drawer{x: 555}
	seen := 0
	look := func(f impl.Fn) {
		if impl.Check(f) == impl.CkWell {
			seen++
			checkPromise(t, d, f)
		}
	}
	for _, c := range checkCases() {
		look(c.f)
	}
	wellDrawn(7, 30, func(f impl.Fn) {
		look(f)
		for range 4 {
			g := fnCopy(f)
			checkChange(d, g)
			look(g)
		}
	})
	if seen < 600 {
		t.Errorf("only %d programs were well", seen)
	}
}

// The greatest programs that there are: all limits are met, and one more is refused.
func TestCheckLimits(t *testing.T) {
	f := progOf(impl.MaxValues)
	for b := range impl.MaxBlocks {
		f.Blocks = append(f.Blocks, blockOf(graphTo(b+1)))
		for i := range 5 {
			f.Blocks[b].List = append(f.Blocks[b].List, insConst(b*5+i, b))
		}
	}
	f.Blocks[impl.MaxBlocks-1].Term = termBack(0)
	lookCheck(t, checkCase{name: "all values", f: f, want: impl.CkWell, defs: limitDefs()})
	addPlace(&f, 3, insOut(19))
	if got := impl.Check(f); got != impl.CkWell {
		t.Errorf("Check is %d", got)
	}
	addPlace(&f, 3, insOut(20))
	if got := impl.Check(f); got != impl.CkTaken {
		t.Errorf("Check is %d", got)
	}
	f.Values++
	if got := impl.Check(f); got != impl.CkShape {
		t.Errorf("Check is %d", got)
	}
	f.Values = 79
	if got := impl.Check(f); got != impl.CkShape {
		t.Errorf("Check is %d", got)
	}
}

func limitDefs() [][2]int {
	defs := [][2]int{}
	for v := range impl.MaxValues {
		defs = append(defs, [2]int{v / 5, v % 5})
	}
	return defs
}

func TestCheckNotShapeOk(t *testing.T) {
	list := graphSpoiled()
	for _, op := range []int{0, 11, 26, -1, math.MinInt, math.MaxInt} {
		f := checkLoop()
		addPlace(&f, 3, impl.Ins{Op: op})
		list = append(list, f)
	}
	for _, f := range list {
		if impl.ShapeOk(f) {
			t.Fatalf("nothing is wrong with %+v", f)
		}
		if got := impl.Check(f); got != impl.CkShape {
			t.Errorf("Check is %d: %+v", got, f)
		}
		for _, v := range append([]int{0, 1, 2, 3, 79, 80}, fnFar...) {
			if b, i := impl.DefAt(f, v); b != -1 || i != -2 {
				t.Errorf("DefAt of %d is %d, %d: %+v", v, b, i, f)
			}
		}
	}
}

// Only what is well shaped has places: a D that is -1 is none of them.
func TestCheckDefAtOfAllKinds(t *testing.T) {
	f := fnFull()
	for v := -3; v < 25; v++ {
		b, i := impl.DefAt(f, v)
		if c, j := defModel(f, v); b != c || i != j {
			t.Errorf("DefAt of %d is %d, %d, not %d, %d", v, b, i, c, j)
		}
	}
	g := progOf(3, blockOf(termBack(0), impl.Ins{Op: impl.InStore, A: 1, B: 2}, insOut(1), insRead(1), insRead(0)))
	for v, want := range [][2]int{{0, 3}, {0, 2}, nowhere} {
		if b, i := impl.DefAt(g, v); b != want[0] || i != want[1] {
			t.Errorf("DefAt of %d is %d, %d, not %v", v, b, i, want)
		}
	}
}

// fnRoomy has spare room behind every list, with something in it.
func fnRoomy(f impl.Fn) impl.Fn {
	f = fnCopy(f)
	for b, block := range f.Blocks {
		for i, p := range block.Phis {
			block.Phis[i].Arms = append(p.Arms, impl.Arm{From: 1, V: 1}, impl.Arm{From: -7, V: -8})[:len(p.Arms)]
		}
		f.Blocks[b].Phis = append(block.Phis, phiOf(0), phiOf(-9))[:len(block.Phis)]
		f.Blocks[b].List = append(block.List, insConst(0, 1), insConst(-5, -6))[:len(block.List)]
	}
	f.Blocks = append(f.Blocks, blockOf(graphTo(0)), blockOf(graphTo(-1)))[:len(f.Blocks)]
	return f
}

// fnWhole is all that a program has, with the spare room behind each list.
func fnWhole(f impl.Fn) impl.Fn {
	f.Blocks = slices.Clone(f.Blocks[:cap(f.Blocks)])
	for b, block := range f.Blocks {
		f.Blocks[b].List = slices.Clone(block.List[:cap(block.List)])
		f.Blocks[b].Phis = slices.Clone(block.Phis[:cap(block.Phis)])
		for i, p := range f.Blocks[b].Phis {
			f.Blocks[b].Phis[i].Arms = slices.Clone(p.Arms[:cap(p.Arms)])
		}
	}
	return f
}

// Promise 21: neither a program nor the spare room behind it is written into, and none of it counts.
func TestCheckWritesIntoNothing(t *testing.T) {
	for _, c := range checkCases() {
		c.f = fnRoomy(c.f)
		before := fnWhole(c.f)
		lookCheck(t, c)
		lookCheck(t, c)
		if !reflect.DeepEqual(fnWhole(c.f), before) {
			t.Errorf("%s: an argument was written into", c.name)
		}
	}
}
