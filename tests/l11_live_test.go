package tests

import (
	"math"
	"reflect"
	"slices"
	"testing"

	"loop.example/g00192/impl"
)

// A liveCase is a program that is plain, for each block and each place of it (as many as its list has: its Term) what is
// needed ahead of that, and for each block what is needed at its end.
type liveCase struct {
	name string
	f    impl.Fn
	at   [][][]int
	out  [][]int
}

func liveOrdinary() []liveCase {
	oneTwo := oneBlock(2, 1, insRead(0), insOut(0), insAdd(1, 0, 0))
	return []liveCase{
		{"one block", oneTwo, [][][]int{{{}, {0}, {0}, {1}}}, [][]int{{}}},
		{"straight on", checkStraight(),
			[][][]int{{{}, {0}, {0, 1}}, {{0, 1}, {0, 2}, {0, 2}}, {{0, 2}, {3}}},
			[][]int{{0, 1}, {0, 2}, {}}},
		{"a choice whose ways meet", plainBy(checkJoin(), [3]int{1, 3, 1}, [3]int{2, 3, 2}),
			[][][]int{{{}, {0}}, {{0}, {0, 1}, {0, 3}}, {{0}, {0, 2}, {0, 2}, {0, 3}}, {{0, 3}, {4}}},
			[][]int{{0}, {0, 3}, {0, 3}, {}}},
		{"a loop", plainBy(checkLoop(), [3]int{0, 3, 0}, [3]int{0, 4, 2}, [3]int{2, 3, 5}, [3]int{2, 4, 6}),
			[][][]int{
				{{}, {0}, {0, 1}, {0, 1, 2}, {1, 2, 3}, {1, 3, 4}},
				{{1, 3, 4}},
				{{1, 3, 4}, {1, 3, 4}, {1, 3, 4, 5}, {1, 5, 6}, {1, 3, 6}, {1, 3, 4}},
				{{4}}},
			[][]int{{1, 3, 4}, {1, 3, 4}, {1, 3, 4}, {}}},
		{"a loop in a loop", plainBy(edgeNestSplit(), [3]int{0, 2, 0}, [3]int{3, 3, 4}, [3]int{4, 2, 6}, [3]int{6, 3, 2}),
			[][][]int{
				{{}, {0}, {0, 1}, {0, 1, 2}},
				{{0, 1, 2}},
				{{0, 1, 2, 3}},
				{{0, 1, 2, 3}, {0, 1, 2, 4}, {0, 1, 2, 4}, {0, 1, 2, 3}},
				{{0, 1, 2}, {0, 1, 6}, {0, 1, 2}},
				{{0, 2}, {0, 5}, {5}},
				{{0, 1, 2}, {0, 1, 2, 3}}},
			[][]int{{0, 1, 2}, {0, 1, 2}, {0, 1, 2, 3}, {0, 1, 2, 3}, {0, 1, 2}, {}, {0, 1, 2, 3}}},
		{"a circle of two copies", plainBy(plainRing(11, 10), [3]int{0, 10, 0}, [3]int{0, 11, 1}, [3]int{2, 12, 10}, [3]int{2, 10, 11}, [3]int{2, 11, 12}),
			[][][]int{
				{{}, {0}, {0, 1}, {1, 10}, {10, 11}},
				{{10, 11}, {9, 10, 11}, {9, 10, 11}, {9, 10, 11}},
				{{10, 11}, {11, 12}, {10, 12}, {10, 11}},
				{{10}}},
			[][]int{{10, 11}, {10, 11}, {10, 11}, {}}},
	}
}

// liveMade are the edges of what makes and takes values within a block.
func liveMade() []liveCase {
	return []liveCase{
		{"a place that takes the very value that it makes", oneBlock(2, 1, insRead(1), insAdd(1, 1, 0)), [][][]int{{{0}, {0, 1}, {1}}}, [][]int{{}}},
		{"a copy of a value to itself", oneBlock(2, 1, insCopy(1, 1)), [][][]int{{{1}, {1}}}, [][]int{{}}},
		{"a copy of a value to itself that nobody takes behind it", oneBlock(2, 0, insCopy(1, 1)), [][][]int{{{0, 1}, {0}}}, [][]int{{}}},
		{"a load by the value that it makes", oneBlock(1, 0, insLoad(0, 0)), [][][]int{{{0}, {0}}}, [][]int{{}}},
		{"a value that nobody takes", oneBlock(3, 0, insRead(0), insRead(1), insConst(2, 5)), [][][]int{{{}, {0}, {0}, {0}}}, [][]int{{}}},
		{"what is taken for a value that nobody takes is needed", oneBlock(3, 0, insRead(0), insRead(1), insAdd(2, 1, 1)), [][][]int{{{}, {0}, {0, 1}, {0}}}, [][]int{{}}},
		{"a value that is taken and never made", oneBlock(3, 0, insRead(0), insOut(2), insOut(0)), [][][]int{{{2}, {0, 2}, {0}, {0}}}, [][]int{{}}},
		{"a place that takes one value twice", oneBlock(2, 1, insRead(0), insAdd(1, 0, 0)), [][][]int{{{}, {0}, {1}}}, [][]int{{}}},
		{"a store that takes one value twice", oneBlock(1, 0, insStore(0, 0)), [][][]int{{{0}, {0}}}, [][]int{{}}},
		{"made anew ahead of being taken", oneBlock(1, 0, insRead(0), insRead(0), insOut(0), insConst(0, 1)), [][][]int{{{}, {}, {0}, {}, {0}}}, [][]int{{}}},
		{"taken, made anew, and taken", oneBlock(2, 0, insOut(1), insRead(1), insOut(1), insRead(0)), [][][]int{{{1}, {}, {1}, {}, {0}}}, [][]int{{}}},
		{"what a place does not name is not taken", oneBlock(2, 1, insConst(1, 0), insRead(1)), [][][]int{{{}, {}, {1}}}, [][]int{{}}},
		{"what a place does not name is not made", oneBlock(2, 0, insStore(1, 1), insOut(1)), [][][]int{{{0, 1}, {0, 1}, {0}}}, [][]int{{}}},
		{"a number of a const is no value", oneBlock(3, 0, insConst(0, 2)), [][][]int{{{}, {0}}}, [][]int{{}}},
		{"no value at all", progOf(0, blockOf(graphTo(0))), [][][]int{{{}}}, [][]int{{}}},
		{"a block without a list", progOf(3, blockOf(termBack(2))), [][][]int{{{2}}}, [][]int{{}}},
		{"every kind of place", oneBlock(9, 8, insLoad(8, 7), insStore(6, 5), insOut(4), insRead(3), insCopy(3, 2), insOp(impl.OpLess, 2, 1, 3), insConst(1, 9), insOut(1)),
			[][][]int{{{1, 2, 4, 5, 6, 7}, {1, 2, 4, 5, 6, 8}, {1, 2, 4, 8}, {1, 2, 8}, {1, 2, 8}, {1, 3, 8}, {8}, {1, 8}, {8}}}, [][]int{{}}},
	}
}

// liveRound are the edges of what goes round.
func liveRound() []liveCase {
	back, read := blockOf(termBack(1)), insRead(0)
	again := termBranch(0, 1, 2)
	return []liveCase{
		{"needed all the way round, and taken only behind the loop", progOf(2, blockOf(graphTo(1), insRead(1)), blockOf(again, read), back),
			[][][]int{{{}, {1}}, {{1}, {0, 1}}, {{1}}}, [][]int{{1}, {1}, {}}},
		{"taken in the round after", progOf(3, blockOf(graphTo(1), insRead(1), insRead(2)), blockOf(again, insOut(2), read, insAdd(2, 0, 0)), back),
			[][][]int{{{}, {1}, {1, 2}}, {{1, 2}, {1}, {0, 1}, {0, 1, 2}}, {{1}}}, [][]int{{1, 2}, {1, 2}, {}}},
		{"taken in the round after, and never made ahead of the loop", progOf(3, blockOf(graphTo(1), insRead(1)), blockOf(again, insOut(2), read, insRead(2)), back),
			[][][]int{{{2}, {1, 2}}, {{1, 2}, {1}, {0, 1}, {0, 1, 2}}, {{1}}}, [][]int{{1, 2}, {1, 2}, {}}},
		{"made anew in the loop ahead of being taken there", progOf(3, blockOf(graphTo(1), insRead(1), insRead(2)), blockOf(again, read, insRead(2), insOut(2)), back),
			[][][]int{{{}, {1}, {1}}, {{1}, {0, 1}, {0, 1, 2}, {0, 1}}, {{1}}}, [][]int{{1}, {1}, {}}},
		{"made anew in the loop, and taken behind it", progOf(2, blockOf(graphTo(1), insRead(1)), blockOf(again, read, insRead(1)), back),
			[][][]int{{{}, {}}, {{}, {0}, {0, 1}}, {{1}}}, [][]int{{}, {1}, {}}},
		{"made anew on one of two ways", progOf(2, blockOf(termBranch(0, 1, 2), read, insRead(1)), blockOf(graphTo(3), insRead(1)), blockOf(graphTo(3)), back),
			[][][]int{{{}, {0}, {0, 1}}, {{}, {1}}, {{1}}, {{1}}}, [][]int{{1}, {1}, {1}, {}}},
		{"made anew on both ways", progOf(2, blockOf(termBranch(0, 1, 2), read, insRead(1)), blockOf(graphTo(3), insRead(1)), blockOf(graphTo(3), insConst(1, 4)), back),
			[][][]int{{{}, {0}, {0}}, {{}, {1}}, {{}, {1}}, {{1}}}, [][]int{{}, {1}, {1}, {}}},
		{"taken on one of two ways", progOf(3, blockOf(termBranch(0, 1, 2), read, insRead(1), insRead(2)), blockOf(graphTo(3), insOut(2)), blockOf(graphTo(3)), back),
			[][][]int{{{}, {0}, {0, 1}, {0, 1, 2}}, {{1, 2}, {1}}, {{1}}, {{1}}}, [][]int{{1, 2}, {1}, {1}, {}}},
		{"a block that goes to itself alone", progOf(2, blockOf(graphTo(0), insOut(0), insRead(0), insRead(1))),
			[][][]int{{{0}, {}, {0}, {0}}}, [][]int{{0}}},
		{"a block that goes to itself, and takes nothing of what it makes", progOf(2, blockOf(graphTo(0), read, insRead(1))),
			[][][]int{{{}, {}, {}}}, [][]int{{}}},
		{"a block without a list that goes to itself", progOf(2, blockOf(graphTo(1), read, insRead(1)), blockOf(graphTo(1))),
			[][][]int{{{}, {}, {}}, {{}}}, [][]int{{}, {}}},
		{"both ways to the block itself", progOf(2, blockOf(graphTo(1), read), blockOf(termBranch(0, 1, 1), insOut(1))),
			[][][]int{{{1}, {0, 1}}, {{0, 1}, {0, 1}}}, [][]int{{0, 1}, {0, 1}}},
		{"two ways that are one and the same block", progOf(2, blockOf(termBranch(0, 1, 1), read, insRead(1)), back),
			[][][]int{{{}, {0}, {0, 1}}, {{1}}}, [][]int{{1}, {}}},
		{"a loop that is never left needs nothing behind it", progOf(3, blockOf(graphTo(1), read, insRead(2)), blockOf(termBranch(0, 2, 1)), blockOf(graphTo(1), insOut(0)), blockOf(termBack(2))),
			[][][]int{{{}, {0}, {0}}, {{0}}, {{0}, {0}}, {{2}}}, [][]int{{0}, {0}, {0}, {}}},
		{"blocks that go back the whole row", progOf(3, blockOf(graphTo(1), insOut(2)), blockOf(graphTo(2)), blockOf(termBranch(0, 0, 3), read), back),
			[][][]int{{{1, 2}, {1, 2}}, {{1, 2}}, {{1, 2}, {0, 1, 2}}, {{1}}}, [][]int{{1, 2}, {1, 2}, {1, 2}, {}}},
		{"what a block that comes back does not take is not needed there", progOf(2, blockOf(again, read, insRead(1)), blockOf(termBack(0)), back),
			[][][]int{{{}, {0}, {0, 1}}, {{0}}, {{1}}}, [][]int{{0, 1}, {}, {}}},
		{"a block that is not reached", progOf(4, blockOf(graphTo(1), read, insRead(1)), back, blockOf(graphTo(1), insOut(3), insRead(2))),
			[][][]int{{{}, {}, {1}}, {{1}}, {{1, 3}, {1}, {1}}}, [][]int{{1}, {}, {1}}},
		{"blocks that are not reached go round", progOf(4, blockOf(termBack(0), read), blockOf(graphTo(2), insRead(2)), blockOf(termBranch(3, 1, 2), insOut(2))),
			[][][]int{{{}, {0}}, {{3}, {2, 3}}, {{2, 3}, {2, 3}}}, [][]int{{}, {2, 3}, {2, 3}}},
	}
}

func liveCases() []liveCase { return slices.Concat(liveOrdinary(), liveMade(), liveRound()) }

func liveBusy(at [][][]int) int {
	most := 0
	for _, list := range at {
		for _, needed := range list {
			most = max(most, len(needed))
		}
	}
	return most
}

func liveFirst(at [][][]int) [][]int {
	list := [][]int{}
	for _, places := range at {
		list = append(list, places[0])
	}
	return list
}

func wantLiveAt(t *testing.T, name string, f impl.Fn, b, i int, want []int) {
	t.Helper()
	if got := impl.LiveAt(f, b, i); !slices.Equal(got, want) {
		t.Errorf("%s: LiveAt %d, %d is %v, not %v: %+v", name, b, i, got, want, f)
	}
}

func wantLive(t *testing.T, name string, f impl.Fn, in, out [][]int, busy int) {
	t.Helper()
	if got := impl.LiveIn(f); !sameDoms(got, in) {
		t.Errorf("%s: LiveIn is %v, not %v: %+v", name, got, in, f)
	}
	if got := impl.LiveOut(f); !sameDoms(got, out) {
		t.Errorf("%s: LiveOut is %v, not %v: %+v", name, got, out, f)
	}
	if got := impl.Busy(f); got != busy {
		t.Errorf("%s: Busy is %d, not %d: %+v", name, got, busy, f)
	}
}

func lookLive(t *testing.T, c liveCase) {
	t.Helper()
	wantLive(t, c.name, c.f, liveFirst(c.at), c.out, liveBusy(c.at))
	for b, list := range c.at {
		for i, want := range list {
			wantLiveAt(t, c.name, c.f, b, i, want)
		}
	}
}

func TestLiveOrdinary(t *testing.T) {
	for _, c := range liveOrdinary() {
		lookLive(t, c)
	}
}

func TestLiveMade(t *testing.T) {
	for _, c := range liveMade() {
		lookLive(t, c)
	}
}

func TestLiveRound(t *testing.T) {
	for _, c := range liveRound() {
		lookLive(t, c)
	}
}

// A liveSpot is a place, as LiveAt has it.
type liveSpot struct{ b, i int }

// liveTaken looks by the words, for one value, whether some way from a place takes it ahead of making it again.
func liveTaken(f impl.Fn, succs [][]int, from liveSpot, v int) bool {
	seen := map[liveSpot]bool{}
	for work := []liveSpot{from}; len(work) > 0; {
		at := work[0]
		work = work[1:]
		if seen[at] {
			continue
		}
		seen[at] = true
		block := f.Blocks[at.b]
		if at.i == len(block.List) {
			if slices.Contains(impl.TermUses(block.Term), v) {
				return true
			}
			for _, s := range succs[at.b] {
				work = append(work, liveSpot{s, 0})
			}
			continue
		}
		if slices.Contains(impl.InsUses(block.List[at.i]), v) {
			return true
		}
		if impl.InsDef(block.List[at.i]) != v {
			work = append(work, liveSpot{at.b, at.i + 1})
		}
	}
	return false
}

func liveModel(f impl.Fn) liveCase {
	c := liveCase{name: "model", f: f, at: make([][][]int, len(f.Blocks)), out: make([][]int, len(f.Blocks))}
	succs := graphModel(f).succs
	for b, block := range f.Blocks {
		c.at[b] = make([][]int, len(block.List)+1)
		for v := range f.Values {
			for i := range c.at[b] {
				if liveTaken(f, succs, liveSpot{b, i}, v) {
					c.at[b][i] = append(c.at[b][i], v)
				}
			}
			if slices.ContainsFunc(succs[b], func(s int) bool { return liveTaken(f, succs, liveSpot{s, 0}, v) }) {
				c.out[b] = append(c.out[b], v)
			}
		}
	}
	return c
}

func TestLiveModelOfCases(t *testing.T) {
	for _, c := range liveCases() {
		m := liveModel(c.f)
		if !sameDoms(m.out, c.out) || !slices.EqualFunc(m.at, c.at, sameDoms) {
			t.Errorf("%s: the model tells %v, %v, not %v, %v", c.name, m.at, m.out, c.at, c.out)
		}
	}
}

// liveUnion is all that is in these lists, ascending.
func liveUnion(lists ...[]int) []int {
	all := slices.Concat(lists...)
	slices.Sort(all)
	return slices.Compact(all)
}

// livePromise is promise 11 of one plain program: place by place, by what the program itself tells of the place behind.
func livePromise(t *testing.T, name string, f impl.Fn) {
	t.Helper()
	in, out := impl.LiveIn(f), impl.LiveOut(f)
	if len(in) != len(f.Blocks) || len(out) != len(f.Blocks) {
		t.Fatalf("%s: LiveIn has %d, LiveOut %d: %+v", name, len(in), len(out), f)
	}
	most := 0
	for b, block := range f.Blocks {
		follow := [][]int{}
		for _, s := range impl.Succs(f, b) {
			follow = append(follow, in[s])
		}
		if want := liveUnion(follow...); !slices.Equal(out[b], want) {
			t.Errorf("%s: at the end of %d is %v needed, not %v: %+v", name, b, out[b], want, f)
		}
		wantLiveAt(t, name, f, b, 0, in[b])
		behind := liveUnion(out[b], impl.TermUses(block.Term))
		wantLiveAt(t, name, f, b, len(block.List), behind)
		most = max(most, len(behind))
		for i := len(block.List) - 1; i >= 0; i-- {
			x := block.List[i]
			behind = slices.DeleteFunc(behind, func(v int) bool { return v == impl.InsDef(x) })
			behind = liveUnion(behind, impl.InsUses(x))
			wantLiveAt(t, name, f, b, i, behind)
			most = max(most, len(behind))
		}
	}
	if got := impl.Busy(f); got != most {
		t.Errorf("%s: Busy is %d, not %d: %+v", name, got, most, f)
	}
}

// Promise 11: what is needed ahead of a place is what it takes, and what is needed behind it but what it makes.
func TestLivePromise(t *testing.T) {
	for _, c := range liveCases() {
		livePromise(t, c.name, c.f)
	}
	for _, c := range plainCases() {
		livePromise(t, c.name, c.plain)
		lookLive(t, liveModel(c.plain))
	}
}

// liveLowered is promise 11 of a program that can be lowered: it tells the same, and needs nothing at first.
func liveLowered(t *testing.T, name string, f impl.Fn, reads []int) {
	t.Helper()
	g, ok := impl.Lower(f)
	if !ok {
		t.Fatalf("%s: Lower is false: %+v", name, f)
	}
	if first := impl.LiveIn(g)[0]; len(first) > 0 {
		t.Errorf("%s: at first %v is needed: %+v", name, first, g)
	}
	wantLiveAt(t, name, g, 0, 0, nil)
	told, how, end := impl.Run(f, reads, 250)
	toldG, howG, endG := impl.Run(g, reads, impl.MaxFuel)
	if how == impl.RnFuel {
		if !isBeginning(told, toldG) {
			t.Errorf("%s, reads %v: %v does not begin %v: %+v", name, reads, told, toldG, f)
		}
		return
	}
	if !slices.Equal(told, toldG) || how != howG || end != endG {
		t.Errorf("%s, reads %v: Run is %v, %d, %d, not %v, %d, %d: %+v", name, reads, toldG, howG, endG, told, how, end, f)
	}
}

func TestLiveLowered(t *testing.T) {
	for _, c := range plainCases() {
		for _, reads := range [][]int{c.reads, nil, {1, 1, 1}, {2, -1, 0, 4}} {
			liveLowered(t, c.name, c.f, reads)
		}
	}
	for _, c := range edgeCases() {
		g, ok := impl.Split(impl.Prune(impl.Fold(c.f)))
		if !ok {
			t.Fatalf("%s: Split is false", c.name)
		}
		liveLowered(t, c.name+": smaller and split", g, c.reads)
	}
}

func TestLiveDrawnLowered(t *testing.T) {
	d := &drawer{x: 11}
	seen, busy := 0, 0
	var ends [3]int
	wellDrawn(11, 60, func(f impl.Fn) {
		g, ok := impl.Split(f)
		if !ok {
			return
		}
		p, ok := impl.Lower(g)
		if !ok {
			return
		}
		seen++
		reads := runReads(d)
		liveLowered(t, "drawn", g, reads)
		livePromise(t, "drawn", p)
		lookLive(t, liveModel(p))
		_, how, _ := impl.Run(g, reads, 250)
		ends[how]++
		busy = max(busy, impl.Busy(p))
	})
	if seen < 300 || slices.Min(ends[:]) < 20 || busy < 9 {
		t.Error(seen, ends, busy)
	}
}

// liveAnyOf draws a program that is plain and nothing more: values are made many times, or never, and blocks go anywhere.
func liveAnyOf(d *drawer, blocks, values, most int) impl.Fn {
	f := impl.Fn{Values: values, Blocks: make([]impl.Block, blocks)}
	for b := range f.Blocks {
		for range d.draw(most + 1) {
			k := placeKinds[d.draw(len(placeKinds))]
			addPlace(&f, b, placeIns(k, d.draw(values), d.draw(values), d.draw(values), d.draw(9)))
		}
		k := termKinds[min(d.draw(7)/2, 2)]
		if d.draw(4) == 0 {
			k = termKinds[1]
		}
		f.Blocks[b].Term = termOf(k, d.draw(values), d.draw(blocks), d.draw(blocks))
	}
	return f
}

func TestLiveDrawnPlain(t *testing.T) {
	d := &drawer{x: 111}
	some := 0
	for range 1200 {
		f := liveAnyOf(d, 1+d.draw(8), 1+d.draw(9), d.draw(7))
		wantPlain(t, "drawn", f, true)
		lookLive(t, liveModel(f))
		livePromise(t, "drawn", f)
		needed := len(impl.LiveIn(f)[0])
		some += flag(needed > 0 && needed < f.Values)
	}
	if some < 300 {
		t.Error(some)
	}
}

// liveKinds is what a block can do with value 0.
var liveKinds = [][]impl.Ins{
	nil,
	{insOut(0)},
	{insRead(0)},
	{insAdd(0, 0, 1)},
	{insRead(0), insOut(0)},
}

// All programs of one and two blocks, and of three where each does the first three kinds.
func TestLiveAllSmallPrograms(t *testing.T) {
	for n := 1; n <= 3; n++ {
		kinds := 5
		if n == 3 {
			kinds = 3
		}
		choices := 1
		for range n {
			choices *= kinds
		}
		graphEach(n, func(f impl.Fn) {
			for choice := range choices {
				for b := range f.Blocks {
					f.Blocks[b].List = liveKinds[choice%kinds]
					choice /= kinds
				}
				m := liveModel(f)
				wantLive(t, "small", f, liveFirst(m.at), m.out, liveBusy(m.at))
			}
		})
	}
}

// What is not needed at a place may be anything there: nobody is told of it.
func TestLiveNotNeededMayBeAnything(t *testing.T) {
	d := &drawer{x: 1111}
	changed, done := 0, 0
	for range 300 {
		f := liveAnyOf(d, 1+d.draw(5), 1+d.draw(5), 5)
		reads := runReads(d)
		told, how, end := impl.Run(f, reads, 200)
		if how == impl.RnFuel {
			continue
		}
		done++
		for b, block := range f.Blocks {
			for i := range len(block.List) + 1 {
				needed := impl.LiveAt(f, b, i)
				for v := range f.Values {
					if slices.Contains(needed, v) {
						continue
					}
					changed++
					g := fnCopy(f)
					g.Blocks[b].List = slices.Insert(g.Blocks[b].List, i, insConst(v, 77777))
					toldG, howG, endG := impl.Run(g, reads, impl.MaxFuel)
					if !slices.Equal(told, toldG) || how != howG || end != endG {
						t.Errorf("%d, %d, value %d: Run is %v, %d, %d, not %v, %d, %d: %+v", b, i, v, toldG, howG, endG, told, how, end, f)
					}
				}
			}
		}
	}
	if done < 100 || changed < 1000 {
		t.Error(done, changed)
	}
}

// liveRow goes through as many blocks as there may be in this order; its value 0 is made in the first, and taken in the last.
func liveRow(row []int, end impl.Term) impl.Fn {
	f := fnOf(2, len(row))
	for i, b := range row {
		f.Blocks[b].Term = end
		if i+1 < len(row) {
			f.Blocks[b].Term = graphTo(row[i+1])
		}
	}
	addPlace(&f, 0, insRead(0))
	addPlace(&f, row[len(row)-1], insOut(0))
	return f
}

// Limits: MaxBlocks blocks, whichever of them goes first: what is needed comes all the way.
func TestLiveLimitsOfBlocks(t *testing.T) {
	for _, step := range []int{1, 3, 5, 7, 9, 11, 13, 15} {
		row := []int{}
		for i := range impl.MaxBlocks {
			row = append(row, i*step%impl.MaxBlocks)
		}
		for _, end := range []impl.Term{termBack(1), graphTo(0), graphTo(row[8]), termBranch(1, row[1], row[15])} {
			f := liveRow(row, end)
			lookLive(t, liveModel(f))
			livePromise(t, "a row", f)
			for _, b := range row[1:] {
				if !slices.Contains(impl.LiveIn(f)[b], 0) {
					t.Errorf("the value does not come to block %d: %+v", b, f)
				}
			}
			f.Blocks = append(f.Blocks, blockOf(graphTo(0)))
			liveNothing(t, "a block too many", f)
		}
	}
}

// Limits: a list that is just full, and one with one too many.
func TestLiveLimitsOfLists(t *testing.T) {
	f := oneBlock(24, 23)
	at := [][]int{}
	for v := range impl.MaxList {
		addPlace(&f, 0, insAdd(v, v, max(v-1, 0)))
		needed := []int{}
		for w := max(v-1, 0); w < impl.MaxList; w++ {
			needed = append(needed, w)
		}
		at = append(at, needed)
	}
	lookLive(t, liveCase{"just full", f, [][][]int{append(at, []int{23})}, [][]int{{}}})
	wantLiveAt(t, "just full", f, 0, impl.MaxList+1, nil)
	addPlace(&f, 0, insOut(0))
	liveNothing(t, "one too many", f)
}

// Limits: MaxValues values that are all needed at once, through MaxBlocks blocks with as many places as there may be.
func TestLiveLimitsOfValues(t *testing.T) {
	f := fnOf(impl.MaxValues, impl.MaxBlocks)
	all := []int{}
	for v := range impl.MaxValues {
		all = append(all, v)
		addPlace(&f, v/20, insRead(v))
		addPlace(&f, 15-v/20, insOut(v))
	}
	for b := range f.Blocks {
		f.Blocks[b].Term = graphTo(min(b+1, 15))
		for len(f.Blocks[b].List) < impl.MaxList {
			addPlace(&f, b, insOut(0))
		}
	}
	f.Blocks[15].Term = termBack(79)
	lookLive(t, liveModel(f))
	livePromise(t, "all values", f)
	wantLiveAt(t, "all values", f, 8, 3, all)
	if got := impl.Busy(f); got != impl.MaxValues {
		t.Errorf("Busy is %d", got)
	}
	f.Values++
	liveNothing(t, "a value too many", f)
	one := progOf(impl.MaxValues, blockOf(termBack(79)))
	lookLive(t, liveCase{"the last value", one, [][][]int{{{79}}}, [][]int{{}}})
}

// liveNothing is what is told of a program that is not plain.
func liveNothing(t *testing.T, name string, f impl.Fn) {
	t.Helper()
	wantPlain(t, name, f, false)
	wantLive(t, name, f, nil, nil, -1)
	for b := range len(f.Blocks) + 1 {
		for i := range 3 {
			wantLiveAt(t, name, f, b, i, nil)
		}
	}
	wantLiveAt(t, name, f, -1, 0, nil)
	wantLiveAt(t, name, f, 0, -1, nil)
}

func TestLiveNotPlain(t *testing.T) {
	for _, f := range plainNoShape() {
		liveNothing(t, "not ShapeOk", f)
	}
	for _, f := range []impl.Fn{checkJoin(), checkLoop(), checkNest(), runFib(), plainBoth(), fnFull()} {
		liveNothing(t, "with phis", f)
	}
	for _, c := range liveCases() {
		for b := range c.f.Blocks {
			f := fnCopy(c.f)
			f.Values = max(f.Values, 1)
			f.Blocks[b].Phis = []impl.Phi{phiOf(0)}
			wantShape(t, true, f, c.name)
			liveNothing(t, c.name+": with a phi without arms", f)
			f.Blocks[b].Phis = nil
			f.Blocks[b].Term.Kind = 4
			liveNothing(t, c.name+": with a Term that is none", f)
		}
	}
}

func TestLiveNoSuchPlace(t *testing.T) {
	far := []int{-1, -2, 25, 80, 1 << 32, math.MaxInt, math.MinInt}
	for _, c := range liveCases() {
		n := len(c.f.Blocks)
		for _, b := range append([]int{n, n + 1, 16}, far...) {
			for _, i := range append([]int{0, 1}, far...) {
				wantLiveAt(t, c.name, c.f, b, i, nil)
			}
		}
		for b, block := range c.f.Blocks {
			for _, i := range append([]int{len(block.List) + 1, len(block.List) + 2}, far...) {
				wantLiveAt(t, c.name, c.f, b, i, nil)
			}
		}
	}
}

// Promise 21: neither a program nor the spare room behind it is written into, and none of it counts.
func TestLiveWritesIntoNothing(t *testing.T) {
	for _, c := range liveCases() {
		c.f = fnRoomy(c.f)
		before := fnCopy(fnWhole(c.f))
		lookLive(t, c)
		if !reflect.DeepEqual(fnWhole(c.f), before) {
			t.Errorf("%s: an argument was written into", c.name)
		}
	}
	for _, c := range plainAnyPrograms() {
		f := fnRoomy(c.f)
		before := fnCopy(fnWhole(f))
		wantLive(t, c.name+" with room", f, impl.LiveIn(c.f), impl.LiveOut(c.f), impl.Busy(c.f))
		wantLiveAt(t, c.name+" with room", f, 1, 0, impl.LiveAt(c.f, 1, 0))
		if !reflect.DeepEqual(fnWhole(f), before) {
			t.Errorf("%s: an argument was written into", c.name)
		}
	}
}

func TestLiveSameEachTime(t *testing.T) {
	for range 20 {
		for _, c := range liveCases() {
			lookLive(t, c)
		}
	}
}

// liveScribble writes over the lists of an answer one by one, and over the room behind each, and looks at the others.
func liveScribble(t *testing.T, name string, got, want [][]int) {
	t.Helper()
	for b := range got {
		if !slices.Equal(got[b], want[b]) {
			t.Errorf("%s: list %d became %v, not %v", name, b, got[b], want[b])
		}
		fnScribble(got[b])
	}
	clear(got[:cap(got)])
}

// No two lists of one answer share memory, and none is kept from one call to another.
func TestLiveAnswersAreNew(t *testing.T) {
	for _, c := range liveCases() {
		liveScribble(t, c.name, impl.LiveIn(c.f), liveFirst(c.at))
		liveScribble(t, c.name, impl.LiveOut(c.f), c.out)
		for b, list := range c.at {
			for i := range list {
				fnScribble(impl.LiveAt(c.f, b, i))
			}
		}
		lookLive(t, c)
	}
}
