package tests

import (
	"math"
	"reflect"
	"slices"
	"testing"

	"loop.example/g00192/impl"
)

// A placeKind says which parts a kind of place names, as the document has it.
type placeKind struct {
	op, num    int
	d, a, b, n bool
}

var placeKinds = []placeKind{
	{op: impl.OpAdd, num: 1, d: true, a: true, b: true},
	{op: impl.OpSub, num: 2, d: true, a: true, b: true},
	{op: impl.OpMul, num: 3, d: true, a: true, b: true},
	{op: impl.OpAnd, num: 4, d: true, a: true, b: true},
	{op: impl.OpOr, num: 5, d: true, a: true, b: true},
	{op: impl.OpXor, num: 6, d: true, a: true, b: true},
	{op: impl.OpLess, num: 7, d: true, a: true, b: true},
	{op: impl.OpSame, num: 8, d: true, a: true, b: true},
	{op: impl.OpLeft, num: 9, d: true, a: true, b: true},
	{op: impl.OpRight, num: 10, d: true, a: true, b: true},
	{op: impl.InConst, num: 20, d: true, n: true},
	{op: impl.InLoad, num: 21, d: true, a: true},
	{op: impl.InStore, num: 22, a: true, b: true},
	{op: impl.InOut, num: 23, a: true},
	{op: impl.InRead, num: 24, d: true},
	{op: impl.InCopy, num: 25, d: true, a: true},
}

// A termKind says which parts a kind of end names.
type termKind struct {
	kind, num    int
	a, to, other bool
}

var termKinds = []termKind{
	{kind: impl.TmJump, num: 1, to: true},
	{kind: impl.TmBranch, num: 2, a: true, to: true, other: true},
	{kind: impl.TmBack, num: 3, a: true},
}

var fnOpsNone = []int{0, 11, 12, 15, 18, 19, 26, 27, 100, 256 + 1, 256 + 20, 1<<32 + 1, 1<<32 + 23, -1, -2, -10, -20, -25, math.MaxInt, math.MinInt}

var fnKindsNone = []int{0, 4, 5, 11, 20, 256 + 1, 1<<32 + 3, -1, -2, -3, math.MaxInt, math.MinInt}

var fnFar = []int{-1, -2, -100, math.MinInt, 81, 1000, 1<<32 + 1, math.MaxInt}

func only(named bool, x int) int {
	if named {
		return x
	}
	return 0
}

// placeIns is a place of the kind with zero in all that it does not name.
func placeIns(k placeKind, d, a, b, n int) impl.Ins {
	return impl.Ins{Op: k.num, D: only(k.d, d), A: only(k.a, a), B: only(k.b, b), N: only(k.n, n)}
}

func placeTakes(k placeKind, a, b int) []int {
	list := []int{}
	if k.a {
		list = append(list, a)
	}
	if k.b {
		list = append(list, b)
	}
	return list
}

func termOf(k termKind, a, to, other int) impl.Term {
	return impl.Term{Kind: k.num, A: only(k.a, a), To: only(k.to, to), Else: only(k.other, other)}
}

var fnEnd = impl.Term{Kind: impl.TmJump}

// fnOf has so many blocks that all jump to block 0, and in block 0 these places.
func fnOf(values, blocks int, list ...impl.Ins) impl.Fn {
	f := impl.Fn{Values: values, Blocks: make([]impl.Block, blocks)}
	for i := range f.Blocks {
		f.Blocks[i].Term = fnEnd
	}
	if blocks > 0 {
		f.Blocks[0].List = list
	}
	return f
}

func fnWithTerm(values, blocks int, t impl.Term) impl.Fn {
	f := fnOf(values, blocks)
	f.Blocks[blocks-1].Term = t
	return f
}

func fnWithPhi(values, blocks int, p impl.Phi) impl.Fn {
	f := fnOf(values, blocks)
	f.Blocks[blocks-1].Phis = []impl.Phi{p}
	return f
}

func fnCopy(f impl.Fn) impl.Fn {
	g := impl.Fn{Values: f.Values, Blocks: slices.Clone(f.Blocks)}
	for i, b := range g.Blocks {
		g.Blocks[i].List = slices.Clone(b.List)
		g.Blocks[i].Phis = slices.Clone(b.Phis)
		for j, p := range b.Phis {
			g.Blocks[i].Phis[j].Arms = slices.Clone(p.Arms)
		}
	}
	return g
}

// fnFull has every kind of place and of end, and phis with none, one and two arms.
func fnFull() impl.Fn {
	f := impl.Fn{Values: 20, Blocks: []impl.Block{
		{Term: impl.Term{Kind: impl.TmBranch, A: 11, To: 1, Else: 2}},
		{Phis: []impl.Phi{{D: 16, Arms: []impl.Arm{{From: 0, V: 2}}}, {D: 17}}, Term: impl.Term{Kind: impl.TmJump, To: 2}},
		{Phis: []impl.Phi{{D: 18, Arms: []impl.Arm{{From: 0, V: 19}, {From: 1, V: 0}}}}, Term: impl.Term{Kind: impl.TmBack, A: 3}},
	}}
	for i, k := range placeKinds {
		f.Blocks[0].List = append(f.Blocks[0].List, placeIns(k, i, 19-i, 18, -7))
	}
	return f
}

func wantShape(t *testing.T, want bool, f impl.Fn, what ...any) {
	t.Helper()
	if impl.ShapeOk(f) != want {
		t.Errorf("ShapeOk is %v: %v: %+v", !want, what, f)
	}
}

func TestFnNumbers(t *testing.T) {
	for _, k := range placeKinds {
		if k.op != k.num {
			t.Errorf("the op %d is %d", k.num, k.op)
		}
	}
	for _, k := range termKinds {
		if k.kind != k.num {
			t.Errorf("the kind %d is %d", k.num, k.kind)
		}
	}
	if impl.MaxBlocks != 16 || impl.MaxValues != 80 || impl.MaxList != 24 {
		t.Error("limits")
	}
}

func TestFnPlacesOfEveryKind(t *testing.T) {
	for _, k := range placeKinds {
		for _, v := range [][3]int{{5, 3, 1}, {0, 0, 0}, {1, 2, 2}, {79, 78, 77}, {80, 81, 82}, {-1, -1, -1}, {-2, -3, -4}, {math.MaxInt, math.MinInt, math.MaxInt}} {
			x := placeIns(k, v[0], v[1], v[2], 9)
			def := -1
			if k.d {
				def = v[0]
			}
			if got := impl.InsDef(x); got != def {
				t.Errorf("InsDef(%+v) is %d, not %d", x, got, def)
			}
			if got, want := impl.InsUses(x), placeTakes(k, v[1], v[2]); !slices.Equal(got, want) {
				t.Errorf("InsUses(%+v) is %v, not %v", x, got, want)
			}
		}
	}
}

// What a kind does not name is neither made nor taken, even where it is not 0.
func TestFnPlacesWithMoreThanTheyName(t *testing.T) {
	for _, k := range placeKinds {
		x := impl.Ins{Op: k.num, D: 7, A: 8, B: 9, N: 10}
		def := -1
		if k.d {
			def = 7
		}
		if got := impl.InsDef(x); got != def {
			t.Errorf("InsDef(%+v) is %d, not %d", x, got, def)
		}
		if got, want := impl.InsUses(x), placeTakes(k, 8, 9); !slices.Equal(got, want) {
			t.Errorf("InsUses(%+v) is %v, not %v", x, got, want)
		}
	}
}

func TestFnEndsOfEveryKind(t *testing.T) {
	for _, k := range termKinds {
		for _, a := range append([]int{0, 3, 79, 80}, fnFar...) {
			x := impl.Term{Kind: k.num, A: a, To: 5, Else: 6}
			want := []int{}
			if k.a {
				want = []int{a}
			}
			if got := impl.TermUses(x); !slices.Equal(got, want) {
				t.Errorf("TermUses(%+v) is %v, not %v", x, got, want)
			}
		}
	}
}

func TestFnOpsThatAreNone(t *testing.T) {
	for _, op := range fnOpsNone {
		for _, x := range []impl.Ins{{Op: op}, {Op: op, D: 1, A: 2, B: 3, N: 4}, {Op: op, D: -1, A: -1}} {
			if got := impl.InsDef(x); got != -1 {
				t.Errorf("InsDef(%+v) is %d", x, got)
			}
			if got := impl.InsUses(x); len(got) != 0 {
				t.Errorf("InsUses(%+v) is %v", x, got)
			}
			wantShape(t, false, fnOf(10, 2, x), "op")
		}
	}
	for op := -300; op <= 300; op++ {
		want := op >= 1 && op <= 10 || op >= 20 && op <= 25
		wantShape(t, want, fnOf(1, 1, impl.Ins{Op: op}), "op", op)
	}
}

func TestFnKindsThatAreNone(t *testing.T) {
	for _, kind := range fnKindsNone {
		for _, x := range []impl.Term{{Kind: kind}, {Kind: kind, A: 1, To: 1, Else: 1}} {
			if got := impl.TermUses(x); len(got) != 0 {
				t.Errorf("TermUses(%+v) is %v", x, got)
			}
			wantShape(t, false, fnWithTerm(10, 2, x), "kind")
		}
	}
	for kind := -300; kind <= 300; kind++ {
		want := kind >= 1 && kind <= 3
		wantShape(t, want, fnWithTerm(1, 1, impl.Term{Kind: kind}), "kind", kind)
	}
}

func TestFnShapeOrdinary(t *testing.T) {
	wantShape(t, true, fnFull(), "full")
	for _, k := range placeKinds {
		for _, v := range [][3]int{{5, 3, 1}, {0, 0, 0}, {9, 9, 9}, {2, 2, 4}} {
			for _, n := range []int{0, 1, -1, math.MaxInt, math.MinInt} {
				wantShape(t, true, fnOf(10, 1, placeIns(k, v[0], v[1], v[2], n)), "place")
			}
		}
	}
	for _, k := range termKinds {
		wantShape(t, true, fnWithTerm(10, 3, termOf(k, 4, 1, 2)), "end")
		wantShape(t, true, fnWithTerm(10, 3, termOf(k, 4, 2, 2)), "end")
	}
}

// A shape is not the look: what is never made may be taken, made twice, or never come to.
func TestFnShapeAsksNoMore(t *testing.T) {
	again := impl.Ins{Op: impl.InRead, D: 1}
	wantShape(t, true, fnOf(3, 2, again, again, impl.Ins{Op: impl.OpAdd, D: 2, A: 2, B: 0}), "twice")
	f := fnWithPhi(2, 3, impl.Phi{D: 1, Arms: []impl.Arm{{From: 2, V: 1}, {From: 1, V: 0}}})
	wantShape(t, true, f, "arms from anywhere")
	f.Blocks[0].Phis = []impl.Phi{{D: 1}, {D: 1}}
	wantShape(t, true, f, "phis of block 0")
}

func TestFnShapeHowManyBlocks(t *testing.T) {
	wantShape(t, false, impl.Fn{}, "none")
	wantShape(t, false, impl.Fn{Values: 5}, "none")
	wantShape(t, false, impl.Fn{Values: 5, Blocks: []impl.Block{}}, "none")
	for n := 0; n <= impl.MaxBlocks+4; n++ {
		wantShape(t, n >= 1 && n <= 16, fnOf(3, n), "blocks", n)
	}
	wantShape(t, false, fnOf(3, 1000), "blocks")
	wantShape(t, false, impl.Fn{Values: 5, Blocks: make([]impl.Block, 1)}, "a block of zeros has no end")
}

func TestFnShapeHowManyValues(t *testing.T) {
	for n := -3; n <= impl.MaxValues+4; n++ {
		wantShape(t, n >= 0 && n <= 80, fnOf(n, 2), "values", n)
	}
	for _, n := range fnFar {
		wantShape(t, false, fnOf(n, 2), "values", n)
	}
	wantShape(t, false, fnOf(0, 1, impl.Ins{Op: impl.InRead}), "a value where there is none")
	wantShape(t, false, fnWithTerm(0, 1, impl.Term{Kind: impl.TmBack}), "a value where there is none")
	wantShape(t, false, fnWithPhi(0, 1, impl.Phi{}), "a value where there is none")
	wantShape(t, true, fnOf(80, 1, impl.Ins{Op: impl.OpAdd, D: 79, A: 79, B: 79}), "the last one")
}

func TestFnShapeHowMuchInLists(t *testing.T) {
	for n := 0; n <= impl.MaxList+3; n++ {
		want := n <= 24
		for at := range 3 {
			f := fnOf(5, 3)
			f.Blocks[at].List = slices.Repeat([]impl.Ins{{Op: impl.InConst, D: 1, N: 4}}, n)
			wantShape(t, want, f, "places", n)
			f = fnOf(5, 3)
			f.Blocks[at].Phis = slices.Repeat([]impl.Phi{{D: 1}}, n)
			wantShape(t, want, f, "phis", n)
			f.Blocks[at].List = slices.Repeat([]impl.Ins{{Op: impl.InRead, D: 1}}, 24)
			wantShape(t, want, f, "phis beside places", n)
		}
	}
}

func TestFnShapeHowManyArms(t *testing.T) {
	for blocks := 1; blocks <= 16; blocks++ {
		var arms []impl.Arm
		for n := range 20 {
			f := fnWithPhi(3, blocks, impl.Phi{D: 1, Arms: arms})
			wantShape(t, n <= blocks, f, "arms", n, "blocks", blocks)
			arms = append(arms, impl.Arm{From: n, V: 2})
		}
	}
	over := make([]impl.Arm, 17)
	for i := range over {
		over[i].From = i % 16
	}
	wantShape(t, false, fnWithPhi(3, 16, impl.Phi{D: 1, Arms: over}), "seventeen arms")
	wantShape(t, true, fnWithPhi(3, 16, impl.Phi{D: 1, Arms: over[:16]}), "sixteen arms")
	wantShape(t, false, fnWithPhi(3, 16, impl.Phi{D: 1, Arms: make([]impl.Arm, 1000)}), "many arms")
}

func TestFnShapeTwoArmsOfOneFrom(t *testing.T) {
	for a := range 4 {
		for b := range 4 {
			for c := range 4 {
				p := impl.Phi{D: 1, Arms: []impl.Arm{{From: a, V: 0}, {From: b, V: 2}, {From: c, V: 0}}}
				wantShape(t, a != b && b != c && a != c, fnWithPhi(3, 4, p), "froms")
			}
		}
	}
	f := fnWithPhi(3, 2, impl.Phi{D: 1, Arms: []impl.Arm{{From: 1}}})
	f.Blocks[1].Phis = append(f.Blocks[1].Phis, impl.Phi{D: 2, Arms: []impl.Arm{{From: 1}}})
	wantShape(t, true, f, "one From in two phis")
}

func TestFnShapeValuesThatThereAre(t *testing.T) {
	for _, values := range []int{1, 2, 10, 79, 80} {
		for _, v := range append([]int{0, values - 1, values, values + 1}, fnFar...) {
			in := v >= 0 && v < values
			for _, k := range placeKinds {
				wantShape(t, in || !k.d, fnOf(values, 2, placeIns(k, v, 0, 0, 0)), "D")
				wantShape(t, in || !k.a, fnOf(values, 2, placeIns(k, 0, v, 0, 0)), "A")
				wantShape(t, in || !k.b, fnOf(values, 2, placeIns(k, 0, 0, v, 0)), "B")
			}
			for _, k := range termKinds {
				wantShape(t, in || !k.a, fnWithTerm(values, 2, termOf(k, v, 0, 0)), "A of an end")
			}
			wantShape(t, in, fnWithPhi(values, 2, impl.Phi{D: v}), "D of a phi")
			wantShape(t, in, fnWithPhi(values, 2, impl.Phi{Arms: []impl.Arm{{From: 1}, {V: v}}}), "V of an arm")
		}
	}
}

func TestFnShapeBlocksThatThereAre(t *testing.T) {
	for _, blocks := range []int{1, 2, 10, 15, 16} {
		for _, b := range append([]int{0, blocks - 1, blocks, blocks + 1, 16, 17}, fnFar...) {
			in := b >= 0 && b < blocks
			for _, k := range termKinds {
				wantShape(t, in || !k.to, fnWithTerm(2, blocks, termOf(k, 1, b, 0)), "To")
				wantShape(t, in || !k.other, fnWithTerm(2, blocks, termOf(k, 1, 0, b)), "Else")
			}
			wantShape(t, in, fnWithPhi(2, blocks, impl.Phi{Arms: []impl.Arm{{From: b}}}), "From")
		}
	}
}

func TestFnShapeWhatIsNotNamedIsZero(t *testing.T) {
	for _, x := range []int{1, 2, 9, -1, 1 << 32, math.MaxInt, math.MinInt} {
		for _, k := range placeKinds {
			within := x > 0 && x < 10
			y := placeIns(k, 1, 2, 3, 4)
			y.D = x
			wantShape(t, k.d && within, fnOf(10, 10, y), "D")
			y = placeIns(k, 1, 2, 3, 4)
			y.A = x
			wantShape(t, k.a && within, fnOf(10, 10, y), "A")
			y = placeIns(k, 1, 2, 3, 4)
			y.B = x
			wantShape(t, k.b && within, fnOf(10, 10, y), "B")
			y = placeIns(k, 1, 2, 3, 4)
			y.N = x
			wantShape(t, k.n, fnOf(10, 10, y), "N")
		}
		for _, k := range termKinds {
			within := x > 0 && x < 10
			y := termOf(k, 1, 2, 3)
			y.A = x
			wantShape(t, k.a && within, fnWithTerm(10, 10, y), "A")
			y = termOf(k, 1, 2, 3)
			y.To = x
			wantShape(t, k.to && within, fnWithTerm(10, 10, y), "To")
			y = termOf(k, 1, 2, 3)
			y.Else = x
			wantShape(t, k.other && within, fnWithTerm(10, 10, y), "Else")
		}
	}
}

// A mistake counts wherever it stands: in each block, phi, arm and place of a program that is well shaped otherwise.
func TestFnShapeMistakesAnywhere(t *testing.T) {
	full := fnFull()
	for b := range full.Blocks {
		f := fnCopy(full)
		f.Blocks[b].Term.A = 20
		wantShape(t, false, f, "end", b)
		for i := range full.Blocks[b].List {
			f = fnCopy(full)
			f.Blocks[b].List[i].Op += 50
			wantShape(t, false, f, "place", b, i)
		}
		for i, p := range full.Blocks[b].Phis {
			f = fnCopy(full)
			f.Blocks[b].Phis[i].D = 20
			wantShape(t, false, f, "phi", b, i)
			for j := range p.Arms {
				f = fnCopy(full)
				f.Blocks[b].Phis[i].Arms[j].From = 3
				wantShape(t, false, f, "from", b, i, j)
				f = fnCopy(full)
				f.Blocks[b].Phis[i].Arms[j].V = 20
				wantShape(t, false, f, "arm", b, i, j)
			}
		}
	}
}

// Promise 2: whatever the shape lets by, what is taken and made are values of the program.
func TestFnTakenAndMadeAreValues(t *testing.T) {
	seen := 0
	for values := -1; values <= 4; values++ {
		for op := -1; op <= 26; op++ {
			for _, v := range []int{-1, 0, 1, 3, 4} {
				for _, w := range []int{-1, 0, 2, 3} {
					seen += fnLookAtValues(t, fnOf(values, 1, impl.Ins{Op: op, D: v, A: w, B: v}))
					seen += fnLookAtValues(t, fnOf(values, 1, impl.Ins{Op: op, D: w, A: v}))
					seen += fnLookAtValues(t, fnOf(values, 1, impl.Ins{Op: op, D: v, N: w}))
					seen += fnLookAtValues(t, fnWithTerm(values, 1, impl.Term{Kind: op, A: v, To: w}))
					seen += fnLookAtValues(t, fnWithPhi(values, 1, impl.Phi{D: v, Arms: []impl.Arm{{V: w}}}))
				}
			}
		}
	}
	if seen < 500 {
		t.Errorf("only %d shapes were right", seen)
	}
}

func fnLookAtValues(t *testing.T, f impl.Fn) int {
	t.Helper()
	if !impl.ShapeOk(f) {
		return 0
	}
	for _, b := range f.Blocks {
		list := impl.TermUses(b.Term)
		for _, x := range b.List {
			list = append(list, impl.InsUses(x)...)
			if d := impl.InsDef(x); x.Op != impl.InStore && x.Op != impl.InOut {
				list = append(list, d)
			} else if d != -1 {
				t.Errorf("%+v makes %d", x, d)
			}
		}
		for _, p := range b.Phis {
			list = append(list, p.D)
			for _, a := range p.Arms {
				list = append(list, a.V)
			}
		}
		for _, v := range list {
			if v < 0 || v >= f.Values {
				t.Errorf("%d is no value of %+v", v, f)
			}
		}
	}
	return 1
}

func TestFnListsThatAreNil(t *testing.T) {
	f := impl.Fn{Values: 1, Blocks: []impl.Block{{Term: impl.Term{Kind: impl.TmBack}}}}
	wantShape(t, true, f, "nil lists")
	f.Blocks[0].Phis = []impl.Phi{{Arms: nil}}
	wantShape(t, true, f, "nil arms")
	f.Blocks[0].Phis = []impl.Phi{}
	f.Blocks[0].List = []impl.Ins{}
	wantShape(t, true, f, "empty lists")
}

// Promise 21: what stands in the spare room behind a list counts for nothing, and stays.
func TestFnShapeWritesIntoNothing(t *testing.T) {
	room := fnFull()
	for i := range room.Blocks {
		room.Blocks[i].List = append(room.Blocks[i].List, impl.Ins{Op: 77})
		room.Blocks[i].Phis = append(room.Blocks[i].Phis, impl.Phi{D: 77})
	}
	room.Blocks = append(room.Blocks, impl.Block{Term: impl.Term{Kind: 77}})
	before := fnCopy(room)
	f := impl.Fn{Values: room.Values, Blocks: slices.Clone(room.Blocks)[:3]}
	for i, b := range f.Blocks {
		f.Blocks[i].List = b.List[:len(b.List)-1]
		f.Blocks[i].Phis = b.Phis[:len(b.Phis)-1]
	}
	for range 2 {
		wantShape(t, true, f, "with room behind")
		wantShape(t, false, room, "all of it")
	}
	if !reflect.DeepEqual(room, before) || f.Blocks[:4][3].Term.Kind != 77 {
		t.Error("an argument was written into")
	}
}

func TestFnAnswersAreNew(t *testing.T) {
	for _, k := range placeKinds {
		x := placeIns(k, 5, 3, 3, 1)
		first, second := impl.InsUses(x), impl.InsUses(x)
		fnScribble(first)
		if !slices.Equal(second, placeTakes(k, 3, 3)) || !slices.Equal(impl.InsUses(x), placeTakes(k, 3, 3)) || x != placeIns(k, 5, 3, 3, 1) {
			t.Errorf("InsUses(%+v) is shared", x)
		}
	}
	for _, k := range termKinds {
		x := termOf(k, 4, 1, 2)
		first, second := impl.TermUses(x), impl.TermUses(x)
		want := slices.Clone(second)
		fnScribble(first)
		if !slices.Equal(second, want) || !slices.Equal(impl.TermUses(x), want) || x != termOf(k, 4, 1, 2) {
			t.Errorf("TermUses(%+v) is shared", x)
		}
	}
}

// fnScribble writes over a list and over all the room behind it.
func fnScribble(list []int) {
	list = list[:cap(list)]
	for i := range list {
		list[i] = -99
	}
}
