package tests

import (
	"math"
	"slices"
	"testing"

	"loop.example/g00192/impl"
)

// movesOf are moves of D from S.
func movesOf(pairs ...[2]int) []impl.Move {
	list := []impl.Move{}
	for _, p := range pairs {
		list = append(list, impl.Move{D: p[0], S: p[1]})
	}
	return list
}

// A moveCase is a list of moves within n places, what they do at once, what they do as they stand one behind the other, and
// their row; the values of the places are 10, 11, 12 and so on.
type moveCase struct {
	name string
	n    int
	list []impl.Move
	once []int
	each []int
	row  []impl.Move
}

// moveVals are 10, 11, 12 and so on.
func moveVals(n int) []int {
	vals := []int{}
	for i := range n {
		vals = append(vals, 10+i)
	}
	return vals
}

func moveOrdinary() []moveCase {
	return []moveCase{
		{"none", 3, nil, []int{10, 11, 12}, []int{10, 11, 12}, nil},
		{"none of none", 0, nil, nil, nil, nil},
		{"one", 2, movesOf([2]int{0, 1}), []int{11, 11}, []int{11, 11}, movesOf([2]int{0, 1})},
		{"several that do not meet", 6, movesOf([2]int{4, 5}, [2]int{0, 1}, [2]int{2, 3}), []int{11, 11, 13, 13, 15, 15}, []int{11, 11, 13, 13, 15, 15},
			movesOf([2]int{4, 5}, [2]int{0, 1}, [2]int{2, 3})},
		{"a chain, who takes first", 4, movesOf([2]int{0, 1}, [2]int{1, 2}, [2]int{2, 3}), []int{11, 12, 13, 13}, []int{11, 12, 13, 13},
			movesOf([2]int{0, 1}, [2]int{1, 2}, [2]int{2, 3})},
		{"a chain, who is taken first", 4, movesOf([2]int{2, 3}, [2]int{1, 2}, [2]int{0, 1}), []int{11, 12, 13, 13}, []int{13, 13, 13, 13},
			movesOf([2]int{0, 1}, [2]int{1, 2}, [2]int{2, 3})},
		{"a chain out of order", 5, movesOf([2]int{1, 2}, [2]int{3, 4}, [2]int{0, 1}, [2]int{2, 3}), []int{11, 12, 13, 14, 14}, []int{12, 12, 14, 14, 14},
			movesOf([2]int{0, 1}, [2]int{1, 2}, [2]int{2, 3}, [2]int{3, 4})},
		{"one S taken by several", 4, movesOf([2]int{3, 1}, [2]int{0, 1}, [2]int{2, 1}), []int{11, 11, 11, 11}, []int{11, 11, 11, 11},
			movesOf([2]int{3, 1}, [2]int{0, 1}, [2]int{2, 1})},
		{"one S taken by several that is made, too", 5, movesOf([2]int{1, 4}, [2]int{3, 1}, [2]int{0, 1}, [2]int{2, 1}), []int{11, 14, 11, 11, 14}, []int{14, 14, 14, 14, 14},
			movesOf([2]int{3, 1}, [2]int{0, 1}, [2]int{2, 1}, [2]int{1, 4})},
		{"a chain and one that does not meet it", 5, movesOf([2]int{1, 2}, [2]int{4, 3}, [2]int{0, 1}), []int{11, 12, 12, 13, 13}, []int{12, 12, 12, 13, 13},
			movesOf([2]int{4, 3}, [2]int{0, 1}, [2]int{1, 2})},
	}
}

func moveCircles() []moveCase {
	return []moveCase{
		{"a circle of two", 2, movesOf([2]int{0, 1}, [2]int{1, 0}), []int{11, 10}, []int{11, 11},
			movesOf([2]int{2, 0}, [2]int{0, 1}, [2]int{1, 2})},
		{"a circle of two, the other one first", 2, movesOf([2]int{1, 0}, [2]int{0, 1}), []int{11, 10}, []int{10, 10},
			movesOf([2]int{2, 1}, [2]int{1, 0}, [2]int{0, 2})},
		{"a circle of three", 3, movesOf([2]int{0, 1}, [2]int{1, 2}, [2]int{2, 0}), []int{11, 12, 10}, []int{11, 12, 11},
			movesOf([2]int{3, 0}, [2]int{0, 1}, [2]int{1, 2}, [2]int{2, 3})},
		{"a circle of three the other way", 3, movesOf([2]int{0, 2}, [2]int{1, 0}, [2]int{2, 1}), []int{12, 10, 11}, []int{12, 12, 12},
			movesOf([2]int{3, 0}, [2]int{0, 2}, [2]int{2, 1}, [2]int{1, 3})},
		{"a circle of three, the last one first", 3, movesOf([2]int{2, 0}, [2]int{0, 1}, [2]int{1, 2}), []int{11, 12, 10}, []int{11, 10, 10},
			movesOf([2]int{3, 2}, [2]int{2, 0}, [2]int{0, 1}, [2]int{1, 3})},
		{"two circles", 4, movesOf([2]int{0, 1}, [2]int{1, 0}, [2]int{2, 3}, [2]int{3, 2}), []int{11, 10, 13, 12}, []int{11, 11, 13, 13},
			movesOf([2]int{4, 0}, [2]int{0, 1}, [2]int{1, 4}, [2]int{4, 2}, [2]int{2, 3}, [2]int{3, 4})},
		{"two circles, one within the other in the list", 4, movesOf([2]int{0, 1}, [2]int{2, 3}, [2]int{3, 2}, [2]int{1, 0}), []int{11, 10, 13, 12}, []int{11, 11, 13, 13},
			movesOf([2]int{4, 0}, [2]int{0, 1}, [2]int{1, 4}, [2]int{4, 2}, [2]int{2, 3}, [2]int{3, 4})},
		{"two circles, the greater places first", 5, movesOf([2]int{4, 3}, [2]int{1, 2}, [2]int{3, 4}, [2]int{2, 0}, [2]int{0, 1}), []int{11, 12, 10, 14, 13}, []int{12, 12, 10, 13, 13},
			movesOf([2]int{5, 4}, [2]int{4, 3}, [2]int{3, 5}, [2]int{5, 1}, [2]int{1, 2}, [2]int{2, 0}, [2]int{0, 5})},
		{"a circle with a chain that hangs on it", 4, movesOf([2]int{0, 1}, [2]int{1, 0}, [2]int{2, 1}, [2]int{3, 2}), []int{11, 10, 11, 12}, []int{11, 11, 11, 11},
			movesOf([2]int{3, 2}, [2]int{2, 1}, [2]int{4, 0}, [2]int{0, 1}, [2]int{1, 4})},
		{"a circle beside copies that can be done first", 6, movesOf([2]int{0, 1}, [2]int{4, 5}, [2]int{1, 0}, [2]int{2, 4}), []int{11, 10, 14, 13, 15, 15}, []int{11, 11, 15, 13, 15, 15},
			movesOf([2]int{2, 4}, [2]int{4, 5}, [2]int{6, 0}, [2]int{0, 1}, [2]int{1, 6})},
		{"a circle with one that takes its first D", 3, movesOf([2]int{0, 1}, [2]int{1, 0}, [2]int{2, 0}), []int{11, 10, 10}, []int{11, 11, 11},
			movesOf([2]int{2, 0}, [2]int{3, 0}, [2]int{0, 1}, [2]int{1, 3})},
		{"a circle behind whose D several take", 5, movesOf([2]int{3, 0}, [2]int{0, 1}, [2]int{4, 0}, [2]int{1, 0}, [2]int{2, 0}), []int{11, 10, 10, 10, 10}, []int{11, 11, 11, 10, 11},
			movesOf([2]int{3, 0}, [2]int{4, 0}, [2]int{2, 0}, [2]int{5, 0}, [2]int{0, 1}, [2]int{1, 5})},
		{"a place that is in no circle's way, in n's stead", 3, movesOf([2]int{1, 2}, [2]int{2, 1}), []int{10, 12, 11}, []int{10, 12, 12},
			movesOf([2]int{3, 1}, [2]int{1, 2}, [2]int{2, 3})},
	}
}

// moveSame are those who move to themselves.
func moveSame() []moveCase {
	return []moveCase{
		{"alone", 2, movesOf([2]int{1, 1}), []int{10, 11}, []int{10, 11}, nil},
		{"all of them", 3, movesOf([2]int{2, 2}, [2]int{0, 0}, [2]int{1, 1}), []int{10, 11, 12}, []int{10, 11, 12}, nil},
		{"in front", 3, movesOf([2]int{2, 2}, [2]int{0, 1}), []int{11, 11, 12}, []int{11, 11, 12}, movesOf([2]int{0, 1})},
		{"between", 5, movesOf([2]int{0, 1}, [2]int{4, 4}, [2]int{2, 3}), []int{11, 11, 13, 13, 14}, []int{11, 11, 13, 13, 14}, movesOf([2]int{0, 1}, [2]int{2, 3})},
		{"behind", 3, movesOf([2]int{0, 1}, [2]int{2, 2}), []int{11, 11, 12}, []int{11, 11, 12}, movesOf([2]int{0, 1})},
		{"whose place is taken by another one", 2, movesOf([2]int{1, 1}, [2]int{0, 1}), []int{11, 11}, []int{11, 11}, movesOf([2]int{0, 1})},
		{"whose place is taken by another one ahead of it", 2, movesOf([2]int{0, 1}, [2]int{1, 1}), []int{11, 11}, []int{11, 11}, movesOf([2]int{0, 1})},
		{"whose place is taken by several", 4, movesOf([2]int{3, 1}, [2]int{1, 1}, [2]int{0, 1}), []int{11, 11, 12, 11}, []int{11, 11, 12, 11}, movesOf([2]int{3, 1}, [2]int{0, 1})},
		{"whose place a chain takes in the end", 3, movesOf([2]int{2, 2}, [2]int{1, 2}, [2]int{0, 1}), []int{11, 12, 12}, []int{12, 12, 12}, movesOf([2]int{0, 1}, [2]int{1, 2})},
		{"within a circle in the list", 3, movesOf([2]int{0, 1}, [2]int{2, 2}, [2]int{1, 0}), []int{11, 10, 12}, []int{11, 11, 12},
			movesOf([2]int{3, 0}, [2]int{0, 1}, [2]int{1, 3})},
		{"in front of a circle", 3, movesOf([2]int{0, 0}, [2]int{2, 1}, [2]int{1, 2}), []int{10, 12, 11}, []int{10, 11, 11},
			movesOf([2]int{3, 2}, [2]int{2, 1}, [2]int{1, 3})},
	}
}

func moveCases() []moveCase {
	return slices.Concat(moveOrdinary(), moveCircles(), moveSame())
}

func wantSequence(t *testing.T, name string, list []impl.Move, n int, want []impl.Move, wantOk bool) {
	t.Helper()
	if got, ok := impl.Sequence(list, n); ok != wantOk || !slices.Equal(got, want) {
		t.Errorf("%s: Sequence of %v of %d is %v, %t, not %v, %t", name, list, n, got, ok, want, wantOk)
	}
}

func wantMovesOk(t *testing.T, name string, list []impl.Move, n int, want bool) {
	t.Helper()
	if got := impl.MovesOk(list, n); got != want {
		t.Errorf("%s: MovesOk of %v of %d is %t", name, list, n, got)
	}
}

func wantVals(t *testing.T, name string, got, want []int) {
	t.Helper()
	if !slices.Equal(got, want) {
		t.Errorf("%s: %v, not %v", name, got, want)
	}
}

func lookMoves(t *testing.T, c moveCase) {
	t.Helper()
	wantMovesOk(t, c.name, c.list, c.n, true)
	wantVals(t, c.name+": MovesDo", impl.MovesDo(c.list, moveVals(c.n)), c.once)
	wantVals(t, c.name+": MovesEach", impl.MovesEach(c.list, moveVals(c.n)), c.each)
	wantSequence(t, c.name, c.list, c.n, c.row, true)
	movePromise(t, c.name, c.list, c.n)
}

func TestMoveOrdinary(t *testing.T) {
	for _, c := range moveOrdinary() {
		lookMoves(t, c)
	}
}

func TestMoveCircles(t *testing.T) {
	for _, c := range moveCircles() {
		lookMoves(t, c)
	}
}

func TestMoveToItself(t *testing.T) {
	for _, c := range moveSame() {
		lookMoves(t, c)
	}
}

// movePromise is promise 9 of moves that are MovesOk: their row does, with one place more, what they do at once. What that
// place has at first is of no weight.
func movePromise(t *testing.T, name string, list []impl.Move, n int) {
	t.Helper()
	row, ok := impl.Sequence(list, n)
	if !ok {
		t.Fatalf("%s: Sequence of %v of %d is false", name, list, n)
	}
	vals := moveVals(n)
	once := impl.MovesDo(list, vals)
	for _, more := range []int{0, 10, -1, math.MinInt, math.MaxInt} {
		each := impl.MovesEach(row, append(moveVals(n), more))
		if len(each) != n+1 || !slices.Equal(each[:n], once) {
			t.Errorf("%s: of %v %v is done one behind the other, not %v", name, list, each, once)
		}
	}
	for d, v := range once {
		want := vals[d]
		if at := slices.IndexFunc(list, func(x impl.Move) bool { return x.D == d }); at >= 0 {
			want = vals[list[at].S]
		}
		if v != want {
			t.Errorf("%s: of %v %d has %d at once, not %d", name, list, d, v, want)
		}
	}
	moveRowRight(t, name, list, n, row)
}

// moveRowRight looks at the row alone: each move of the list that is none to itself is there once, from S or from n, and n
// is made only of what begins a circle.
func moveRowRight(t *testing.T, name string, list []impl.Move, n int, row []impl.Move) {
	t.Helper()
	made := map[int]int{}
	kept := -1
	for _, x := range row {
		made[x.D]++
		if x.D == n {
			kept = x.S
			continue
		}
		s := x.S
		if s == n {
			s = kept
		}
		if x.D == x.S || !slices.Contains(list, impl.Move{D: x.D, S: s}) {
			t.Errorf("%s: %v is done, which %v has not", name, x, list)
		}
	}
	for _, x := range list {
		if want := flag(x.D != x.S); made[x.D] != want {
			t.Errorf("%s: %v of %v is done %d times", name, x, list, made[x.D])
		}
	}
	if made[n] != moveCirclesOf(list) {
		t.Errorf("%s: %v has %d circles, but %d is made %d times", name, list, moveCirclesOf(list), n, made[n])
	}
}

// moveCirclesOf counts the circles of two and more: from where one takes one comes back to where one was.
func moveCirclesOf(list []impl.Move) int {
	from := map[int]int{}
	for _, x := range list {
		from[x.D] = x.S
	}
	circles := 0
	for _, x := range list {
		least, at, back := x.D, x.S, false
		for range list {
			least = min(least, at)
			if at == x.D {
				back = true
				break
			}
			s, ok := from[at]
			if !ok {
				break
			}
			at = s
		}
		if back && least == x.D && x.D != x.S {
			circles++
		}
	}
	return circles
}

// sequenceModel goes by the words alone, with what is left in a list.
func sequenceModel(list []impl.Move, n int) []impl.Move {
	left := slices.DeleteFunc(slices.Clone(list), func(x impl.Move) bool { return x.D == x.S })
	row := []impl.Move{}
	for len(left) > 0 {
		first := -1
		for i := len(left) - 1; i >= 0; i-- {
			free := true
			for j, y := range left {
				free = free && (j == i || y.S != left[i].D)
			}
			if free {
				first = i
			}
		}
		if first >= 0 {
			row = append(row, left[first])
			left = slices.Delete(left, first, first+1)
			continue
		}
		d := left[0].D
		row = append(row, impl.Move{D: n, S: d})
		for i, y := range left {
			if y.S == d {
				left[i].S = n
			}
		}
	}
	return row
}

// movesAll tells each list of moves within n places that is MovesOk.
func movesAll(n int, list []impl.Move, look func(list []impl.Move)) {
	look(list)
	for d := range n {
		if slices.ContainsFunc(list, func(x impl.Move) bool { return x.D == d }) {
			continue
		}
		for s := range n {
			movesAll(n, append(slices.Clone(list), impl.Move{D: d, S: s}), look)
		}
	}
}

// Promise 9: copies one behind the other do what they do at once.
func TestMovePromiseOfAll(t *testing.T) {
	for n := range 5 {
		count := 0
		movesAll(n, nil, func(list []impl.Move) {
			count++
			wantMovesOk(t, "one of all", list, n, true)
			wantSequence(t, "one of all", list, n, sequenceModel(list, n), true)
			movePromise(t, "one of all", list, n)
		})
		if want := []int{1, 2, 13, 226, 7889}[n]; count != want {
			t.Errorf("%d lists of %d, not %d", count, n, want)
		}
	}
}

// movesDrawn is a list of moves within n places, many of them in circles.
func movesDrawn(d *drawer, n int) []impl.Move {
	places := make([]int, n)
	for i := range places {
		places[i] = i
	}
	mix := func() {
		for i := n - 1; i > 0; i-- {
			j := d.draw(i + 1)
			places[i], places[j] = places[j], places[i]
		}
	}
	mix()
	list := []impl.Move{}
	for _, p := range places {
		list = append(list, impl.Move{D: p})
	}
	mix()
	for i := range list {
		list[i].S = places[i]
		if d.draw(4) == 0 {
			list[i].S = d.draw(n)
		}
	}
	return list[:d.draw(min(n, impl.MaxList)+1)]
}

func TestMovePromiseDrawn(t *testing.T) {
	d := &drawer{x: 9}
	for range 4000 {
		n := 1 + d.draw(30)
		list := movesDrawn(d, n)
		wantSequence(t, "drawn", list, n, sequenceModel(list, n), true)
		movePromise(t, "drawn", list, n)
	}
}

// A map is gone through in another order each time; what is told is not.
func TestMoveSameEachTime(t *testing.T) {
	d := &drawer{x: 90}
	for range 60 {
		list := movesDrawn(d, 24)
		row, _ := impl.Sequence(list, 24)
		for range 40 {
			wantSequence(t, "again", list, 24, row, true)
		}
	}
}

// The order is the order of the list, not that of the places.
func TestMoveOrder(t *testing.T) {
	list := movesOf([2]int{5, 0}, [2]int{3, 0}, [2]int{4, 0}, [2]int{1, 0}, [2]int{2, 0})
	wantSequence(t, "all at once", list, 6, list, true)
	slices.Reverse(list)
	wantSequence(t, "the other way round", list, 6, list, true)
	// What became free comes ahead of what stands behind it in the list, not at once.
	wantSequence(t, "free again", movesOf([2]int{0, 9}, [2]int{1, 0}, [2]int{2, 8}, [2]int{3, 7}), 10,
		movesOf([2]int{1, 0}, [2]int{0, 9}, [2]int{2, 8}, [2]int{3, 7}), true)
	wantSequence(t, "free again, behind others", movesOf([2]int{2, 8}, [2]int{1, 0}, [2]int{3, 7}, [2]int{0, 9}), 10,
		movesOf([2]int{2, 8}, [2]int{1, 0}, [2]int{3, 7}, [2]int{0, 9}), true)
}

// moveRound is a circle of count places from at on.
func moveRound(at, count int) []impl.Move {
	list := []impl.Move{}
	for i := range count {
		list = append(list, impl.Move{D: at + i, S: at + (i+1)%count})
	}
	return list
}

func moveRoundRow(at, count, n int) []impl.Move {
	row := append([]impl.Move{{D: n, S: at}}, moveRound(at, count)...)
	row[count].S = n
	return row
}

func TestMoveLimits(t *testing.T) {
	const most, more = impl.MaxList, impl.MaxList + 1
	full, over := moveRound(0, most), moveRound(0, more)
	wantMovesOk(t, "just MaxList", full, most, true)
	wantMovesOk(t, "one more", over, more, false)
	once := append(moveVals(most)[1:], 10)
	wantVals(t, "just MaxList", impl.MovesDo(full, moveVals(most)), once)
	wantVals(t, "one more", impl.MovesDo(over, moveVals(more)), moveVals(more))
	wantSequence(t, "just MaxList", full, most, moveRoundRow(0, most, most), true)
	wantSequence(t, "one more", over, more, nil, false)
	movePromise(t, "just MaxList", full, most)

	wantMovesOk(t, "just MaxList of many", full, math.MaxInt, true)
	wantSequence(t, "just MaxList of many", full, math.MaxInt, moveRoundRow(0, most, math.MaxInt), true)

	// Who moves to itself counts, and so does a move of which there are too many.
	same := make([]impl.Move, more)
	for i := range same {
		same[i] = impl.Move{D: i, S: i}
	}
	wantMovesOk(t, "one more, each to itself", same, more, false)
	wantSequence(t, "one more, each to itself", same, more, nil, false)
	wantMovesOk(t, "just MaxList, each to itself", same[:most], more, true)
	wantSequence(t, "just MaxList, each to itself", same[:most], more, nil, true)

	// MovesEach knows no such limit.
	wantVals(t, "MovesEach of one more", impl.MovesEach(over, moveVals(more)), append(moveVals(more)[1:], 11))
	many := make([]impl.Move, 1000)
	for i := range many {
		many[i] = impl.Move{D: (i + 1) % 3, S: i % 3}
	}
	wantVals(t, "MovesEach of many", impl.MovesEach(many, moveVals(3)), []int{10, 10, 10})
}

// Twelve circles of two fill a list; each of them makes n anew.
func TestMoveManyCircles(t *testing.T) {
	const most = impl.MaxList
	list, row := []impl.Move{}, []impl.Move{}
	for i := 0; i < most; i += 2 {
		list = append(list, moveRound(i, 2)...)
		row = append(row, moveRoundRow(i, 2, most)...)
	}
	wantSequence(t, "in a row", list, most, row, true)
	movePromise(t, "in a row", list, most)
}

func TestMoveFewPlaces(t *testing.T) {
	for _, n := range []int{0, -1, math.MinInt} {
		wantMovesOk(t, "none", nil, n, true)
		wantMovesOk(t, "none", []impl.Move{}, n, true)
		wantSequence(t, "none", nil, n, nil, true)
		for _, x := range movesOf([2]int{0, 0}, [2]int{-1, -1}, [2]int{n, n}, [2]int{-2, -2}, [2]int{1, 0}) {
			wantMovesOk(t, "one", []impl.Move{x}, n, false)
			wantSequence(t, "one", []impl.Move{x}, n, nil, false)
		}
	}
	wantMovesOk(t, "one of one", movesOf([2]int{0, 0}), 1, true)
	wantSequence(t, "one of one", movesOf([2]int{0, 0}), 1, nil, true)
}

// moveWrong are lists that are not MovesOk of four places, by one move alone.
func moveWrong() []moveCase {
	wrong := []moveCase{}
	for _, x := range movesOf([2]int{4, 0}, [2]int{0, 4}, [2]int{-1, 0}, [2]int{0, -1}, [2]int{4, 4}, [2]int{-1, -1}, [2]int{5, 0}, [2]int{0, 5},
		[2]int{math.MaxInt, 0}, [2]int{0, math.MaxInt}, [2]int{math.MinInt, 0}, [2]int{0, math.MinInt}, [2]int{1, 0}, [2]int{1, 2}, [2]int{1, 1}) {
		right := movesOf([2]int{1, 2}, [2]int{2, 3})
		for at := range 3 {
			wrong = append(wrong, moveCase{name: "wrong", n: 4, list: slices.Insert(slices.Clone(right), at, x)})
		}
	}
	return append(wrong,
		moveCase{name: "two alike", n: 4, list: movesOf([2]int{0, 1}, [2]int{0, 1})},
		moveCase{name: "two of one D", n: 4, list: movesOf([2]int{0, 1}, [2]int{0, 2})},
		moveCase{name: "two of one D, to themselves", n: 4, list: movesOf([2]int{3, 3}, [2]int{3, 3})},
		moveCase{name: "two of one D, the first to itself", n: 4, list: movesOf([2]int{3, 3}, [2]int{3, 0})},
		moveCase{name: "two of one D, others between", n: 4, list: movesOf([2]int{3, 0}, [2]int{0, 1}, [2]int{1, 2}, [2]int{2, 0}, [2]int{3, 1})},
		moveCase{name: "one without its place", n: 4, list: movesOf([2]int{4, 4})})
}

func TestMoveWrong(t *testing.T) {
	for _, c := range moveWrong() {
		wantMovesOk(t, c.name, c.list, c.n, false)
		wantVals(t, c.name+": MovesDo", impl.MovesDo(c.list, moveVals(c.n)), moveVals(c.n))
		wantSequence(t, c.name, c.list, c.n, nil, false)
	}
}

// moveEachModel asks of each move alone whether its places are there.
func moveEachModel(list []impl.Move, vals []int) []int {
	at := map[int]int{}
	for i, v := range vals {
		at[i] = v
	}
	for _, x := range list {
		_, d := at[x.D]
		if v, s := at[x.S]; d && s {
			at[x.D] = v
		}
	}
	after := []int{}
	for i := range vals {
		after = append(after, at[i])
	}
	return after
}

func TestMoveEachWithin(t *testing.T) {
	for _, c := range []struct {
		name string
		list []impl.Move
		want []int
	}{
		{"D below 0", movesOf([2]int{-1, 0}, [2]int{1, 2}), []int{10, 12, 12}},
		{"S below 0", movesOf([2]int{1, 2}, [2]int{0, -1}), []int{10, 12, 12}},
		{"D above", movesOf([2]int{3, 0}, [2]int{1, 2}), []int{10, 12, 12}},
		{"S above", movesOf([2]int{0, 3}, [2]int{1, 2}), []int{10, 12, 12}},
		{"D and S above, between others", movesOf([2]int{0, 1}, [2]int{3, 3}, [2]int{1, 2}), []int{11, 12, 12}},
		{"far off", movesOf([2]int{math.MaxInt, 0}, [2]int{0, math.MaxInt}, [2]int{math.MinInt, 0}, [2]int{0, math.MinInt}), []int{10, 11, 12}},
		{"none", nil, []int{10, 11, 12}},
		{"to itself", movesOf([2]int{1, 1}), []int{10, 11, 12}},
		{"two of one D", movesOf([2]int{0, 1}, [2]int{0, 2}), []int{12, 11, 12}},
		{"two of one D, the first one taken between", movesOf([2]int{0, 1}, [2]int{2, 0}, [2]int{0, 2}, [2]int{1, 0}), []int{11, 11, 11}},
		{"two of one D, one without its S", movesOf([2]int{0, 1}, [2]int{0, 3}), []int{11, 11, 12}},
		{"the greatest place", movesOf([2]int{2, 0}, [2]int{0, 1}), []int{11, 11, 10}},
	} {
		wantVals(t, c.name, impl.MovesEach(c.list, moveVals(3)), c.want)
		wantVals(t, c.name+": the model", moveEachModel(c.list, moveVals(3)), c.want)
	}
	wantVals(t, "of none", impl.MovesEach(movesOf([2]int{0, 0}, [2]int{0, 1}, [2]int{-1, 0}), nil), nil)
	d := &drawer{x: 91}
	for range 3000 {
		n := d.draw(6)
		list := []impl.Move{}
		for range d.draw(40) {
			list = append(list, impl.Move{D: d.draw(n+3) - 1, S: d.draw(n+3) - 1})
		}
		wantVals(t, "drawn", impl.MovesEach(list, moveVals(n)), moveEachModel(list, moveVals(n)))
	}
}

// Values of another number than what the moves want: with fewer they are not MovesOk, with more the rest stays.
func TestMoveOtherNumber(t *testing.T) {
	for _, c := range moveCases() {
		most := -1
		for _, x := range c.list {
			most = max(most, x.D, x.S)
		}
		for n := range most + 1 {
			wantMovesOk(t, c.name, c.list, n, false)
			wantVals(t, c.name+": fewer", impl.MovesDo(c.list, moveVals(n)), moveVals(n))
			wantSequence(t, c.name+": fewer", c.list, n, nil, false)
			wantVals(t, c.name+": fewer", impl.MovesEach(c.list, moveVals(n)), moveEachModel(c.list, moveVals(n)))
		}
		for n := c.n; n < c.n+3; n++ {
			wantMovesOk(t, c.name, c.list, n, true)
			wantVals(t, c.name+": more", impl.MovesDo(c.list, moveVals(n)), append(slices.Clone(c.once), moveVals(n)[c.n:]...))
			wantSequence(t, c.name+": more", c.list, n, sequenceModel(c.list, n), true)
		}
	}
}

// The numbers that are moved are of any size.
func TestMoveAnyValues(t *testing.T) {
	list := movesOf([2]int{0, 1}, [2]int{1, 2}, [2]int{2, 0})
	wantVals(t, "great", impl.MovesDo(list, []int{math.MinInt, -1, math.MaxInt}), []int{-1, math.MaxInt, math.MinInt})
	wantVals(t, "great, each", impl.MovesEach(list, []int{math.MinInt, -1, math.MaxInt}), []int{-1, math.MaxInt, -1})
}

// moveRoomy has spare room behind its list, with moves and values that are not to be seen.
func moveRoomy(list []impl.Move, n int) ([]impl.Move, []int) {
	return append(slices.Clone(list), impl.Move{D: 0, S: 1}, impl.Move{D: -3, S: -4})[:len(list)], append(moveVals(n), -5, -6, -7)[:n]
}

// Promise 21: nothing is written into an argument, nor behind it, and no answer shares memory with one.
func TestMoveWritesIntoNone(t *testing.T) {
	for _, c := range slices.Concat(moveCases(), moveWrong()) {
		list, vals := moveRoomy(c.list, c.n)
		whole, wholeVals := slices.Clone(list[:cap(list)]), slices.Clone(vals[:cap(vals)])
		impl.MovesOk(list, c.n)
		once, each := impl.MovesDo(list, vals), impl.MovesEach(list, vals)
		row, _ := impl.Sequence(list, c.n)
		for _, answer := range [][]int{once, each} {
			answer = answer[:cap(answer)]
			for i := range answer {
				answer[i] = -99
			}
		}
		row = row[:cap(row)]
		for i := range row {
			row[i] = impl.Move{D: -99, S: -99}
		}
		if !slices.Equal(list[:cap(list)], whole) || !slices.Equal(vals[:cap(vals)], wholeVals) {
			t.Errorf("%s: an argument is written: %v, %v", c.name, list[:cap(list)], vals[:cap(vals)])
		}
	}
}

// What was answered once is not written again by a later call.
func TestMoveAnswersApart(t *testing.T) {
	for _, c := range moveCases() {
		once, each := impl.MovesDo(c.list, moveVals(c.n)), impl.MovesEach(c.list, moveVals(c.n))
		row, _ := impl.Sequence(c.list, c.n)
		impl.MovesDo(c.list, make([]int, c.n))
		impl.MovesEach(c.list, make([]int, c.n))
		impl.Sequence(c.list, c.n+1)
		wantVals(t, c.name, once, c.once)
		wantVals(t, c.name, each, c.each)
		if !slices.Equal(row, c.row) {
			t.Errorf("%s: the row became %v, not %v", c.name, row, c.row)
		}
	}
}
