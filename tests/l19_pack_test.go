package tests

import (
	"bytes"
	"math"
	"math/big"
	"reflect"
	"runtime"
	"slices"
	"sync"
	"testing"

	"loop.example/g00192/impl"
)

// Numbers from -packEnd up to below packEnd have a form.
const packEnd = 1 << 62

// packFar are numbers that have none.
var packFar = []int{packEnd, packEnd + 1, -packEnd - 1, -packEnd - 2, 3 << 61, -3 << 61, math.MaxInt, math.MaxInt - 1, math.MinInt, math.MinInt + 1}

// A numCase is a number, and its form by hand.
type numCase struct {
	x    int
	form []byte
}

// A packCase is a program, and its bytes by hand.
type packCase struct {
	name  string
	f     impl.Fn
	bytes []byte
}

// The first test of this file, as nothing ahead of it has asked for bytes: so the first call of all is one of many at once.
// The race detector, where it is there, looks on.
func TestPackFromManyAtOnce(t *testing.T) {
	list := packCases()
	start := make(chan int)
	var all sync.WaitGroup
	for range 64 {
		all.Add(1)
		go func() {
			defer all.Done()
			<-start
			for range 30 {
				for _, c := range list {
					wantProgram(t, c.name, c.bytes, c.f)
					wantPacked(t, c.name, c.f, c.bytes)
					wantNoProgram(t, c.name, c.bytes[1:])
				}
				lookNumbers(t, packNumbersByHand())
			}
		}()
	}
	close(start)
	all.Wait()
}

func wantNum(t *testing.T, x int, want []byte) {
	t.Helper()
	if got := impl.PackNum(x); !bytes.Equal(got, want) {
		t.Errorf("PackNum of %d is %v, not %v", x, got, want)
	}
}

func wantRead(t *testing.T, b []byte, at, x, behind int) {
	t.Helper()
	if gotX, gotBehind, ok := impl.UnpackNum(b, at); gotX != x || gotBehind != behind || !ok {
		t.Errorf("UnpackNum of %v at %d is %d, %d, %t, not %d, %d", b, at, gotX, gotBehind, ok, x, behind)
	}
}

func wantNoNum(t *testing.T, b []byte, at int) {
	t.Helper()
	if x, behind, ok := impl.UnpackNum(b, at); x != 0 || behind != 0 || ok {
		t.Errorf("UnpackNum of %v at %d is %d, %d, %t", b, at, x, behind, ok)
	}
}

func wantPacked(t *testing.T, name string, f impl.Fn, want []byte) {
	t.Helper()
	if got, ok := impl.PackFn(f); !ok || !bytes.Equal(got, want) {
		t.Errorf("%s: PackFn is %v, %t, not %v: %+v", name, got, ok, want, f)
	}
}

func wantNotPacked(t *testing.T, name string, f impl.Fn) {
	t.Helper()
	if got, ok := impl.PackFn(f); ok || len(got) != 0 {
		t.Errorf("%s: PackFn is %v, %t: %+v", name, got, ok, f)
	}
}

func wantProgram(t *testing.T, name string, b []byte, want impl.Fn) {
	t.Helper()
	if got, ok := impl.UnpackFn(b); !ok || !fnSame(got, want) {
		t.Errorf("%s: UnpackFn of %v is %+v, %t, not %+v", name, b, got, ok, want)
	}
}

func wantNoProgram(t *testing.T, name string, b []byte) {
	t.Helper()
	if got, ok := impl.UnpackFn(b); ok || !fnSame(got, impl.Fn{}) {
		t.Errorf("%s: UnpackFn of %v is %+v, %t", name, b, got, ok)
	}
}

// lookNumber looks at a number that has a form: alone, and with other bytes ahead of it and behind it.
func lookNumber(t *testing.T, x int, form []byte) {
	t.Helper()
	wantNum(t, x, form)
	wantRead(t, form, 0, x, len(form))
	for _, ahead := range [][]byte{{}, {0}, {128}, {255, 255}, {9, 172, 2}, {128, 0, 128}} {
		for _, behind := range [][]byte{{}, {0}, {1}, {128}, {255}, {128, 0}, {0, 0, 0}, bytes.Repeat([]byte{255}, 12)} {
			b := slices.Concat(ahead, form, behind)
			wantRead(t, b, len(ahead), x, len(ahead)+len(form))
		}
	}
	for cut := range len(form) {
		wantNoNum(t, form[:cut:cut], 0)
		wantNoNum(t, slices.Concat([]byte{7}, form[:cut]), 1)
	}
}

func lookNumbers(t *testing.T, cases []numCase) {
	t.Helper()
	for _, c := range cases {
		lookNumber(t, c.x, c.form)
	}
}

func packNumbersByHand() []numCase {
	return []numCase{
		{0, []byte{0}}, {-1, []byte{1}}, {1, []byte{2}}, {-2, []byte{3}}, {2, []byte{4}}, {-3, []byte{5}}, {3, []byte{6}}, {24, []byte{48}}, {-25, []byte{49}},
		{63, []byte{126}}, {-64, []byte{127}}, {64, []byte{128, 1}}, {-65, []byte{129, 1}}, {65, []byte{130, 1}}, {-66, []byte{131, 1}},
		{100, []byte{200, 1}}, {127, []byte{254, 1}}, {-128, []byte{255, 1}}, {128, []byte{128, 2}}, {-129, []byte{129, 2}}, {150, []byte{172, 2}}, {-150, []byte{171, 2}},
		{8191, []byte{254, 127}}, {-8192, []byte{255, 127}}, {8192, []byte{128, 128, 1}}, {-8193, []byte{129, 128, 1}},
		{1000000, []byte{128, 137, 122}}, {-1000000, []byte{255, 136, 122}},
		{1048575, []byte{254, 255, 127}}, {-1048576, []byte{255, 255, 127}}, {1048576, []byte{128, 128, 128, 1}}, {-1048577, []byte{129, 128, 128, 1}},
		{1 << 31, []byte{128, 128, 128, 128, 16}}, {1<<31 - 1, []byte{254, 255, 255, 255, 15}}, {-1 << 31, []byte{255, 255, 255, 255, 15}}, {1 << 32, []byte{128, 128, 128, 128, 32}},
		{packEnd - 1, []byte{254, 255, 255, 255, 255, 255, 255, 255, 127}}, {packEnd - 2, []byte{252, 255, 255, 255, 255, 255, 255, 255, 127}},
		{-packEnd, []byte{255, 255, 255, 255, 255, 255, 255, 255, 127}}, {-packEnd + 1, []byte{253, 255, 255, 255, 255, 255, 255, 255, 127}},
		{1 << 61, []byte{128, 128, 128, 128, 128, 128, 128, 128, 64}}, {-1 << 61, []byte{255, 255, 255, 255, 255, 255, 255, 255, 63}},
	}
}

func TestPackNumbers(t *testing.T) {
	lookNumbers(t, packNumbersByHand())
}

// The number of which so many bytes are just enough, and the one behind it, above 0 and below.
func TestPackNumbersGrow(t *testing.T) {
	for n := 1; n <= 9; n++ {
		most := 1<<(7*n-1) - 1
		full := append(bytes.Repeat([]byte{255}, n-1), 127)
		lookNumber(t, -most-1, full)
		full = slices.Clone(full)
		full[0]--
		lookNumber(t, most, full)
		if n == 9 {
			break
		}
		more := append(bytes.Repeat([]byte{128}, n), 1)
		lookNumber(t, most+1, more)
		more = slices.Clone(more)
		more[0]++
		lookNumber(t, -most-2, more)
	}
}

func TestPackNumbersBeyond(t *testing.T) {
	for _, x := range packFar {
		wantNum(t, x, nil)
	}
	for shift := range 62 {
		wantNum(t, packEnd+1<<shift, nil)
		wantNum(t, -packEnd-1<<shift, nil)
		wantNum(t, math.MaxInt-1<<shift+1, nil)
		wantNum(t, math.MinInt+1<<shift, nil)
	}
}

// numModel is the form by the words, with numbers of any size; nil of what has none.
func numModel(x int) []byte {
	if x < -packEnd || x > packEnd-1 {
		return nil
	}
	rest := big.NewInt(int64(x))
	rest.Add(rest, rest)
	if x < 0 {
		rest.Neg(rest).Sub(rest, big.NewInt(1))
	}
	form := []byte{}
	for {
		digit := new(big.Int)
		rest.DivMod(rest, big.NewInt(128), digit)
		if rest.Sign() == 0 {
			return append(form, byte(digit.Int64()))
		}
		form = append(form, byte(digit.Int64()+128))
	}
}

// formModel is the number of a form by the words, whatever its size, and though it may not be the shortest.
func formModel(form []byte) *big.Int {
	whole := new(big.Int)
	for _, b := range slices.Backward(form) {
		whole.Mul(whole, big.NewInt(128)).Add(whole, big.NewInt(int64(b%128)))
	}
	if whole.Bit(0) == 1 {
		whole.Add(whole, big.NewInt(1)).Neg(whole)
	}
	return whole.Quo(whole, big.NewInt(2))
}

func numReadModel(b []byte, at int) (int, int, bool) {
	if at < 0 || at >= len(b) {
		return 0, 0, false
	}
	last := slices.IndexFunc(b[at:], func(one byte) bool { return one < 128 })
	if last < 0 || last > 8 {
		return 0, 0, false
	}
	form := b[at : at+last+1]
	x := formModel(form)
	if !x.IsInt64() || !bytes.Equal(numModel(int(x.Int64())), form) {
		return 0, 0, false
	}
	return int(x.Int64()), at + last + 1, true
}

// numIsRead looks at UnpackNum of any bytes: by the words, and that whatever is read is packed as just those bytes.
func numIsRead(t *testing.T, b []byte, at int) bool {
	t.Helper()
	x, behind, ok := numReadModel(b, at)
	if !ok {
		wantNoNum(t, b, at)
		return false
	}
	wantRead(t, b, at, x, behind)
	wantNum(t, x, b[at:behind])
	return true
}

// numDrawn is a form of so many bytes, and its number.
func numDrawn(d *drawer, n int) (int, []byte) {
	form := []byte{}
	for range n - 1 {
		form = append(form, byte(128+d.draw(128)))
	}
	form = append(form, byte(d.draw(128)))
	if n > 1 && form[n-1] == 0 {
		form[n-1] = 1
	}
	return int(formModel(form).Int64()), form
}

func TestPackNumbersDrawn(t *testing.T) {
	d := &drawer{x: 19}
	for n := 1; n <= 9; n++ {
		below := 0
		for range 300 {
			x, form := numDrawn(d, n)
			lookNumber(t, x, form)
			if !bytes.Equal(numModel(x), form) {
				t.Errorf("the model has %v of %d, not %v", numModel(x), x, form)
			}
			below += flag(x < 0)
		}
		if below < 50 || below > 250 {
			t.Errorf("%d below 0", below)
		}
	}
}

func TestPackNumbersInARow(t *testing.T) {
	for x := -70000; x <= 70000; x++ {
		form := impl.PackNum(x)
		if got, behind, ok := impl.UnpackNum(form, 0); got != x || behind != len(form) || !ok {
			t.Fatal(x, form, got, behind, ok)
		}
	}
	for x := -300; x <= 300; x++ {
		lookNumber(t, x, numModel(x))
	}
}

// Near each number with just one bit, above 0 and below.
func TestPackNumbersOfOneBit(t *testing.T) {
	for bit := range 63 {
		for more := -2; more <= 2; more++ {
			for _, x := range []int{1<<bit + more, -1<<bit + more} {
				wantNum(t, x, numModel(x))
				if form := numModel(x); form != nil {
					lookNumber(t, x, form)
				}
			}
		}
	}
}

func TestPackPlacesThatAreNone(t *testing.T) {
	for _, b := range [][]byte{nil, {}, {0}, {5}, {128, 1}, {128}, {9, 172, 2}, bytes.Repeat([]byte{2}, 40)} {
		for _, at := range []int{-1, -2, -9, -len(b) - 1, len(b), len(b) + 1, len(b) + 8, len(b) + 9, 1 << 32, -1 << 32, math.MaxInt, math.MaxInt - 1, math.MaxInt - 8, math.MaxInt - 9, math.MinInt, math.MinInt + 1} {
			wantNoNum(t, b, at)
			wantNoNum(t, append(slices.Clone(b), 4, 4, 4)[:len(b)], at)
		}
	}
}

// Of what is no form: cut short, longer than it needs to be, or of too many bytes.
func TestPackFormsThatAreNone(t *testing.T) {
	for _, form := range [][]byte{
		{128}, {129}, {255}, {128, 128}, {255, 255, 255}, bytes.Repeat([]byte{128}, 8), bytes.Repeat([]byte{255}, 8), bytes.Repeat([]byte{255}, 9),
		{128, 0}, {129, 0}, {254, 0}, {255, 0}, {128, 128, 0}, {129, 128, 0}, {255, 128, 0}, {255, 255, 0}, {128, 128, 128, 0},
		append(bytes.Repeat([]byte{128}, 7), 0), append(bytes.Repeat([]byte{255}, 7), 0), append(bytes.Repeat([]byte{128}, 8), 0), append(bytes.Repeat([]byte{255}, 8), 0),
		append(bytes.Repeat([]byte{255}, 9), 0), append(bytes.Repeat([]byte{255}, 9), 1), append(bytes.Repeat([]byte{128}, 9), 0), append(bytes.Repeat([]byte{128}, 9), 1), append(bytes.Repeat([]byte{128}, 9), 127),
		append(bytes.Repeat([]byte{255}, 8), 128), append(bytes.Repeat([]byte{255}, 8), 255), append(bytes.Repeat([]byte{128}, 8), 129), append(bytes.Repeat([]byte{129}, 8), 192),
		bytes.Repeat([]byte{255}, 10), bytes.Repeat([]byte{128}, 64), bytes.Repeat([]byte{255}, 5000), append(bytes.Repeat([]byte{128}, 5000), 1),
	} {
		wantNoNum(t, form, 0)
		wantNoNum(t, slices.Concat([]byte{3, 1}, form), 2)
		if len(form) > 8 || form[len(form)-1] == 0 {
			wantNoNum(t, slices.Concat(form, []byte{1}), 0)
			wantNoNum(t, slices.Concat(form, []byte{0, 0}), 0)
		}
	}
	lookNumbers(t, packNumbersByHand())
	for _, c := range packNumbersByHand() {
		for more := 1; more <= 9; more++ {
			wantNoNum(t, formLonger(c.form, more), 0)
		}
	}
}

// formLonger is a form that has so many bytes more than it needs.
func formLonger(form []byte, more int) []byte {
	form = slices.Clone(form)
	for range more {
		form[len(form)-1] += 128
		form = append(form, 0)
	}
	return form
}

// All rows of one and two bytes, and longer ones of bytes at the edges.
func TestPackFormsOfAllBytes(t *testing.T) {
	right, wrong := 0, 0
	look := func(b ...byte) {
		ok := numIsRead(t, b, 0)
		right, wrong = right+flag(ok), wrong+flag(!ok)
	}
	edges := []byte{0, 1, 2, 127, 128, 129, 255}
	for x := range 256 {
		look(byte(x))
		for y := range 256 {
			look(byte(x), byte(y))
		}
		for _, y := range edges {
			for _, z := range edges {
				look(byte(x), y, z)
				look(y, byte(x), z)
				look(y, z, byte(x))
				look(y, z, 128, byte(x), 0)
			}
		}
	}
	if right < 40000 || wrong < 20000 {
		t.Error(right, wrong)
	}
}

func TestPackFormsDrawn(t *testing.T) {
	d := &drawer{x: 190}
	var seen [2]int
	for range 20000 {
		b := []byte{}
		for range d.draw(14) {
			b = append(b, byte([]int{d.draw(256), 128 + d.draw(128), d.draw(3)}[min(d.draw(5), 2)]))
		}
		for at := -1; at <= len(b)+1; at++ {
			seen[flag(numIsRead(t, b, at))]++
		}
	}
	if seen[0] < 20000 || seen[1] < 20000 {
		t.Error(seen)
	}
}

// Nine bytes are the most, and all of them count.
func TestPackFormsOfNineBytes(t *testing.T) {
	d := &drawer{x: 99}
	for last := range 256 {
		for range 10 {
			_, form := numDrawn(d, 9)
			form[8] = byte(last)
			if numIsRead(t, form, 0) != (last >= 1 && last <= 127) {
				t.Errorf("the model reads %v wrongly", form)
			}
		}
	}
}

// packNumbers are the numbers of a program in the order of the words.
func packNumbers(f impl.Fn) []int {
	list := []int{f.Values, len(f.Blocks)}
	for _, b := range f.Blocks {
		list = append(list, len(b.Phis))
		for _, p := range b.Phis {
			list = append(list, p.D, len(p.Arms))
			for _, a := range p.Arms {
				list = append(list, a.From, a.V)
			}
		}
		list = append(list, len(b.List))
		for _, x := range b.List {
			list = append(list, x.Op, x.D, x.A, x.B, x.N)
		}
		list = append(list, b.Term.Kind, b.Term.A, b.Term.To, b.Term.Else)
	}
	return list
}

// packForms are the forms of these numbers by the words, and whether each has one.
func packForms(list []int) ([][]byte, bool) {
	forms, ok := [][]byte{}, true
	for _, x := range list {
		form := numModel(x)
		forms, ok = append(forms, form), ok && form != nil
	}
	return forms, ok
}

func packBytes(list ...int) []byte {
	forms, _ := packForms(list)
	return slices.Concat(forms...)
}

func packModel(f impl.Fn) ([]byte, bool) {
	forms, ok := packForms(packNumbers(f))
	if !ok || !impl.ShapeOk(f) {
		return nil, false
	}
	return slices.Concat(forms...), true
}

// A packTaker takes numbers one by one; it is wrong as soon as one is missing, or is no count.
type packTaker struct {
	list  []int
	wrong bool
}

func (p *packTaker) take() int {
	if len(p.list) == 0 {
		p.wrong = true
		return 0
	}
	x := p.list[0]
	p.list = p.list[1:]
	return x
}

func (p *packTaker) count(most int) int {
	n := p.take()
	if n < 0 || n > most {
		p.wrong = true
	}
	if p.wrong {
		return 0
	}
	return n
}

func (p *packTaker) block() impl.Block {
	b := impl.Block{}
	for range p.count(24) {
		phi := impl.Phi{D: p.take()}
		for range p.count(16) {
			from := p.take()
			phi.Arms = append(phi.Arms, impl.Arm{From: from, V: p.take()})
		}
		b.Phis = append(b.Phis, phi)
	}
	for range p.count(24) {
		x := impl.Ins{}
		for _, at := range []*int{&x.Op, &x.D, &x.A, &x.B, &x.N} {
			*at = p.take()
		}
		b.List = append(b.List, x)
	}
	for _, at := range []*int{&b.Term.Kind, &b.Term.A, &b.Term.To, &b.Term.Else} {
		*at = p.take()
	}
	return b
}

// unpackModel reads by the words: all bytes are forms, and their numbers are those of one program.
func unpackModel(b []byte) (impl.Fn, bool) {
	p := &packTaker{}
	for at := 0; at < len(b); {
		x, behind, ok := numReadModel(b, at)
		if !ok {
			return impl.Fn{}, false
		}
		p.list, at = append(p.list, x), behind
	}
	f := impl.Fn{Values: p.take()}
	for range p.count(16) {
		f.Blocks = append(f.Blocks, p.block())
	}
	if p.wrong || len(p.list) > 0 || !impl.ShapeOk(f) {
		return impl.Fn{}, false
	}
	return f, true
}

// packIsRead looks at UnpackFn of any bytes: by the words, and that whatever is read is packed as just those bytes.
func packIsRead(t *testing.T, name string, b []byte) bool {
	t.Helper()
	want, ok := unpackModel(b)
	if !ok {
		wantNoProgram(t, name, b)
		return false
	}
	wantProgram(t, name, b, want)
	got, _ := impl.UnpackFn(b)
	wantPacked(t, name, got, b)
	return true
}

// packPromise is promise 19 of a program of any kind.
func packPromise(t *testing.T, name string, f impl.Fn) bool {
	t.Helper()
	want, ok := packModel(f)
	if !ok {
		packRefused(t, name, f)
		return false
	}
	wantPacked(t, name, f, want)
	b, _ := impl.PackFn(f)
	wantProgram(t, name, b, f)
	packIsRead(t, name, b)
	return true
}

// packRefused is a program that is not packed; where its numbers have forms, these are no program's.
func packRefused(t *testing.T, name string, f impl.Fn) {
	t.Helper()
	wantNotPacked(t, name, f)
	if forms, ok := packForms(packNumbers(f)); ok {
		wantNoProgram(t, name, slices.Concat(forms...))
	}
}

// packSmall has a phi with arms and one without, a place of each kind, and each kind of end.
func packSmall() impl.Fn {
	return progOf(5,
		blockOf(termBranch(4, 1, 2), insConst(0, -3), insRead(1), insLoad(2, 1), insStore(3, 2), insOut(2), insCopy(3, 4), insOp(impl.OpSub, 4, 3, 1), insConst(4, 150)),
		withPhis(blockOf(graphTo(2)), phiOf(3, [2]int{0, 1}, [2]int{2, 4}), phiOf(0)),
		blockOf(termBack(3), insConst(1, -65)))
}

func packCases() []packCase {
	return []packCase{
		{"each kind", packSmall(), slices.Concat(
			[]byte{10, 6},
			[]byte{0, 16, 40, 0, 0, 0, 5, 48, 2, 0, 0, 0, 42, 4, 2, 0, 0, 44, 0, 6, 4, 0, 46, 0, 4, 0, 0, 50, 6, 8, 0, 0, 4, 8, 6, 2, 0, 40, 8, 0, 0, 172, 2, 4, 8, 2, 4},
			[]byte{4, 6, 4, 0, 2, 4, 8, 0, 0, 0, 2, 0, 4, 0},
			[]byte{0, 2, 40, 2, 0, 0, 129, 1, 6, 6, 0, 0})},
		{"no value", progOf(0, blockOf(graphTo(0))), []byte{0, 2, 0, 0, 2, 0, 0, 0}},
		{"an end alone", progOf(1, blockOf(termBack(0))), []byte{2, 2, 0, 0, 6, 0, 0, 0}},
		{"two bytes for how many values", progOf(80, blockOf(termBack(79))), []byte{160, 1, 2, 0, 0, 6, 158, 1, 0, 0}},
		{"words", oneBlock(4, 3, insOp(1, 1, 2, 3), insOp(2, 1, 2, 3), insOp(3, 1, 2, 3), insOp(4, 1, 2, 3), insOp(5, 1, 2, 3), insOp(6, 1, 2, 3), insOp(7, 1, 2, 3), insOp(8, 1, 2, 3), insOp(9, 1, 2, 3), insOp(10, 1, 2, 3)),
			[]byte{8, 2, 0, 20, 2, 2, 4, 6, 0, 4, 2, 4, 6, 0, 6, 2, 4, 6, 0, 8, 2, 4, 6, 0, 10, 2, 4, 6, 0, 12, 2, 4, 6, 0, 14, 2, 4, 6, 0, 16, 2, 4, 6, 0, 18, 2, 4, 6, 0, 20, 2, 4, 6, 0, 6, 6, 0, 0}},
		{"places", oneBlock(4, 3, insConst(1, 2), insLoad(1, 2), insStore(1, 2), insOut(1), insRead(1), insCopy(1, 2)),
			[]byte{8, 2, 0, 12, 40, 2, 0, 0, 4, 42, 2, 4, 0, 0, 44, 0, 2, 4, 0, 46, 0, 2, 0, 0, 48, 2, 0, 0, 0, 50, 2, 4, 0, 0, 6, 6, 0, 0}},
		{"ends", progOf(3, blockOf(graphTo(2)), blockOf(termBranch(1, 2, 0)), blockOf(termBack(2))),
			[]byte{6, 6, 0, 0, 2, 0, 4, 0, 0, 0, 4, 2, 4, 0, 0, 0, 6, 4, 0, 0}},
		{"the greatest and the least", oneBlock(1, 0, insConst(0, packEnd-1), insConst(0, -packEnd)),
			[]byte{2, 2, 0, 4, 40, 0, 0, 0, 254, 255, 255, 255, 255, 255, 255, 255, 127, 40, 0, 0, 0, 255, 255, 255, 255, 255, 255, 255, 255, 127, 6, 0, 0, 0}},
		{"arms as they stand", progOf(3, withPhis(blockOf(graphTo(1)), phiOf(2, [2]int{1, 0}, [2]int{0, 2}), phiOf(2, [2]int{0, 1})), blockOf(graphTo(0))),
			[]byte{6, 4, 4, 4, 4, 2, 0, 0, 4, 4, 2, 0, 2, 0, 2, 0, 2, 0, 0, 0, 2, 0, 0, 0}},
	}
}

func TestPackByHand(t *testing.T) {
	for _, c := range packCases() {
		wantPacked(t, c.name, c.f, c.bytes)
		wantProgram(t, c.name, c.bytes, c.f)
		if !packPromise(t, c.name, c.f) || !packIsRead(t, c.name, c.bytes) {
			t.Errorf("%s: the model has no bytes", c.name)
		}
	}
}

// An empty list and nil are the same.
func TestPackEmptyLists(t *testing.T) {
	f := impl.Fn{Values: 1, Blocks: []impl.Block{{Phis: []impl.Phi{{D: 0, Arms: []impl.Arm{}}}, List: []impl.Ins{}, Term: graphTo(1)}, {Phis: []impl.Phi{}, Term: graphTo(0)}}}
	want := []byte{2, 4, 2, 0, 0, 0, 2, 0, 2, 0, 0, 0, 2, 0, 0, 0}
	wantPacked(t, "empty", f, want)
	wantProgram(t, "empty", want, f)
	f.Blocks[0].Phis[0].Arms, f.Blocks[0].List, f.Blocks[1].Phis = nil, nil, nil
	wantPacked(t, "nil", f, want)
	wantProgram(t, "nil", want, f)
}

// packGreat is as great as a program can be.
func packGreat() impl.Fn {
	f := impl.Fn{Values: 80, Blocks: make([]impl.Block, 16)}
	arms := []impl.Arm{}
	for b := range 16 {
		arms = append(arms, impl.Arm{From: 15 - b, V: 79 - b})
	}
	for b := range f.Blocks {
		f.Blocks[b] = impl.Block{Phis: slices.Repeat([]impl.Phi{{D: 79, Arms: arms}}, 24), List: slices.Repeat([]impl.Ins{insConst(79, -packEnd)}, 24), Term: termBranch(79, 15, 15)}
	}
	return fnCopy(f)
}

// Limits: each one met exactly is packed and read, one of one more is neither.
func TestPackLimits(t *testing.T) {
	for n := range 19 {
		f := fnOf(3, n)
		if packPromise(t, "blocks", f) != (n >= 1 && n <= 16) {
			t.Error("blocks", n)
		}
	}
	for n := -2; n <= 83; n++ {
		if packPromise(t, "values", fnOf(n, 2)) != (n >= 0 && n <= 80) {
			t.Error("values", n)
		}
	}
	for n := range 28 {
		f := fnOf(3, 2, slices.Repeat([]impl.Ins{insAdd(1, 2, 0)}, n)...)
		if packPromise(t, "places", f) != (n <= 24) {
			t.Error("places", n)
		}
		f = fnOf(3, 2)
		f.Blocks[1].Phis = slices.Repeat([]impl.Phi{phiOf(1, [2]int{1, 2})}, n)
		if packPromise(t, "phis", f) != (n <= 24) {
			t.Error("phis", n)
		}
	}
	for blocks := 1; blocks <= 16; blocks++ {
		p := phiOf(1)
		for n := range 19 {
			if packPromise(t, "arms", fnWithPhi(3, blocks, p)) != (n <= blocks) {
				t.Error("arms", n, blocks)
			}
			p.Arms = append(p.Arms, impl.Arm{From: n, V: 2})
		}
	}
	great := packGreat()
	if !packPromise(t, "as great as it can be", great) {
		t.Error("the greatest one")
	}
	if b, _ := impl.PackFn(great); len(b) != 3+16*(1+24*(2+1+16*3)+1+24*(1+2+1+1+9)+5) {
		t.Error(len(b))
	}
	great.Blocks = append(great.Blocks, great.Blocks[0])
	packRefused(t, "a block more", great)
}

// What N may be, at each place: InConst alone names it.
func TestPackNumbersOfConst(t *testing.T) {
	for _, x := range []int{0, 1, -1, 63, 64, -64, -65, 1 << 32, -1 << 32, packEnd - 1, packEnd - 2, -packEnd, -packEnd + 1} {
		if !packPromise(t, "N", oneBlock(2, 1, insConst(1, x))) {
			t.Error(x)
		}
	}
	for _, x := range packFar {
		if packPromise(t, "N", oneBlock(2, 1, insConst(1, x))) {
			t.Error(x)
		}
		full := packSmall()
		for b := range full.Blocks {
			f := fnCopy(full)
			addPlace(&f, b, insConst(0, x))
			addPlace(&f, b, insConst(0, 7))
			wantShape(t, true, f, "N beyond")
			packRefused(t, "N beyond", f)
			f.Blocks[b].List = slices.Insert(f.Blocks[b].List, 0, insConst(0, x))
			packRefused(t, "two Ns beyond", f)
		}
	}
}

// packDrawn draws a program that is ShapeOk and nothing more, with phis, arms and numbers of all sizes.
func packDrawn(d *drawer) impl.Fn {
	blocks, values := 1+d.draw(16), 1+d.draw(80)
	f := liveAnyOf(d, blocks, values, d.draw(25))
	for b := range f.Blocks {
		for i, x := range f.Blocks[b].List {
			if x.Op == impl.InConst {
				f.Blocks[b].List[i].N, _ = numDrawn(d, 1+d.draw(9))
			}
		}
		for range d.draw(5) * d.draw(5) {
			p := impl.Phi{D: d.draw(values)}
			for from := range blocks {
				if d.draw(2) == 0 {
					p.Arms = slices.Insert(p.Arms, d.draw(len(p.Arms)+1), impl.Arm{From: from, V: d.draw(values)})
				}
			}
			f.Blocks[b].Phis = append(f.Blocks[b].Phis, p)
		}
	}
	return f
}

func TestPackDrawnPrograms(t *testing.T) {
	d := &drawer{x: 1900}
	for range 1000 {
		if !packPromise(t, "drawn", packDrawn(d)) {
			t.Error("it is not packed")
		}
	}
	wellDrawn(191, 20, func(f impl.Fn) {
		if !packPromise(t, "well", f) {
			t.Error("it is not packed")
		}
		for range 4 {
			g := fnCopy(f)
			checkChange(d, g)
			packPromise(t, "changed", g)
		}
	})
}

// Programs of all kinds that there are, well ones and others, and what their bytes tell when they are run.
func TestPackAnyPrograms(t *testing.T) {
	var seen [2]int
	for _, c := range plainAnyPrograms() {
		ok := packPromise(t, c.name, c.f)
		seen[flag(ok)]++
		if !ok {
			continue
		}
		b, _ := impl.PackFn(c.f)
		g, _ := impl.UnpackFn(b)
		if impl.Check(g) != impl.Check(c.f) {
			t.Errorf("%s: Check is %d", c.name, impl.Check(g))
		}
		told, how, end := impl.Run(c.f, c.reads, 500)
		gotTold, gotHow, gotEnd := impl.Run(g, c.reads, 500)
		if !slices.Equal(told, gotTold) || how != gotHow || end != gotEnd {
			t.Errorf("%s: it tells %v, %d, %d", c.name, gotTold, gotHow, gotEnd)
		}
	}
	if seen[0] < 50 || seen[1] < 50 {
		t.Error(seen)
	}
}

// packNoShape has each way in which a program is not ShapeOk, at each place of one that has all kinds.
func packNoShape() []impl.Fn {
	list := slices.Concat(graphSpoiled(), plainNoShape())
	full := packSmall()
	change := func(spoil func(f impl.Fn)) {
		f := fnCopy(full)
		spoil(f)
		if !impl.ShapeOk(f) {
			list = append(list, f)
		}
	}
	for _, x := range []int{-1, -2, 1, 2, 3, 4, 5, 6, 11, 12, 16, 19, 24, 26, 80, 81, 100, 1 << 32, 1<<32 + 1, packEnd - 1, -packEnd, packEnd, math.MaxInt, math.MinInt} {
		change(func(f impl.Fn) { f.Blocks[1].Phis = slices.Repeat(f.Blocks[1].Phis, min(x&31, 24)+13) })
		for b, block := range full.Blocks {
			for part := range 4 {
				change(func(f impl.Fn) {
					e := &f.Blocks[b].Term
					*[]*int{&e.Kind, &e.A, &e.To, &e.Else}[part] = x
				})
			}
			for i := range block.List {
				for part := range 5 {
					change(func(f impl.Fn) {
						e := &f.Blocks[b].List[i]
						*[]*int{&e.Op, &e.D, &e.A, &e.B, &e.N}[part] = x
					})
				}
			}
			for i, p := range block.Phis {
				change(func(f impl.Fn) { f.Blocks[b].Phis[i].D = x })
				for j := range p.Arms {
					change(func(f impl.Fn) { f.Blocks[b].Phis[i].Arms[j].From = x })
					change(func(f impl.Fn) { f.Blocks[b].Phis[i].Arms[j].V = x })
					change(func(f impl.Fn) { f.Blocks[b].Phis[i].Arms[j].From = p.Arms[1-j].From })
				}
			}
		}
	}
	return list
}

func TestPackNotShapeOk(t *testing.T) {
	list := packNoShape()
	for _, f := range list {
		packRefused(t, "not ShapeOk", f)
	}
	if len(list) < 1000 {
		t.Error(len(list))
	}
	for _, n := range fnFar {
		f := packSmall()
		f.Values = n
		packRefused(t, "values", f)
	}
	packRefused(t, "none", impl.Fn{})
	packRefused(t, "a block of zeros", impl.Fn{Values: 1, Blocks: make([]impl.Block, 1)})
	packRefused(t, "far too many blocks", impl.Fn{Blocks: make([]impl.Block, 1<<16)})
}

// What a kind does not name is zero, in a program and in its bytes.
func TestPackWhatIsNotNamed(t *testing.T) {
	for _, x := range []int{1, -1, 2, 63, 64, -65, packEnd - 1, -packEnd, packEnd, math.MinInt} {
		for _, k := range placeKinds {
			y := placeIns(k, 1, 2, 3, 4)
			for part, named := range []bool{k.d, k.a, k.b, k.n} {
				z := y
				*[]*int{&z.D, &z.A, &z.B, &z.N}[part] = x
				if !named {
					packRefused(t, "not named", fnOf(10, 3, z))
				}
			}
			packPromise(t, "named", fnOf(10, 3, y))
		}
		for _, k := range termKinds {
			y := termOf(k, 1, 2, 0)
			for part, named := range []bool{k.a, k.to, k.other} {
				z := y
				*[]*int{&z.A, &z.To, &z.Else}[part] = x
				if !named {
					packRefused(t, "not named", fnWithTerm(10, 3, z))
				}
			}
			packPromise(t, "named", fnWithTerm(10, 3, y))
		}
	}
}

// Each op and each kind from far below to far above.
func TestPackKinds(t *testing.T) {
	for x := -300; x <= 300; x++ {
		f := oneBlock(1, 0, impl.Ins{Op: x})
		if packPromise(t, "op", f) != (x >= 1 && x <= 10 || x >= 20 && x <= 25) {
			t.Error("op", x)
		}
		f = progOf(1, blockOf(impl.Term{Kind: x}))
		if packPromise(t, "kind", f) != (x >= 1 && x <= 3) {
			t.Error("kind", x)
		}
	}
	for _, x := range slices.Concat(fnOpsNone, fnKindsNone, packFar) {
		packPromise(t, "op", oneBlock(1, 0, impl.Ins{Op: x}))
		packPromise(t, "op with more", oneBlock(2, 0, impl.Ins{Op: x, D: 1, A: 1, B: 1, N: 1}))
		packPromise(t, "kind", progOf(1, blockOf(impl.Term{Kind: x})))
		packPromise(t, "kind with more", progOf(2, blockOf(impl.Term{Kind: x, A: 1}), blockOf(impl.Term{Kind: x, To: 1, Else: 1})))
	}
}

func TestPackNoBytes(t *testing.T) {
	for _, b := range [][]byte{nil, {}, {0}, {2}, {0, 0}, {2, 2}, {128}, {255}, {0, 0, 0, 0, 0, 0, 0, 0}, make([]byte, 5000), bytes.Repeat([]byte{2}, 5000), bytes.Repeat([]byte{255}, 5000), bytes.Repeat([]byte{128}, 5000), []byte("block 0\n")} {
		wantNoProgram(t, "none", b)
		packIsRead(t, "none", b)
	}
}

// packRead are bytes of programs that are looked at byte by byte.
func packRead() [][]byte {
	list := [][]byte{}
	for _, c := range packCases() {
		list = append(list, c.bytes)
	}
	for _, f := range []impl.Fn{checkLoop(), checkNest(), fnFull(), homeKinds()} {
		b, _ := impl.PackFn(f)
		list = append(list, b)
	}
	return list
}

func TestPackCutShort(t *testing.T) {
	for _, b := range packRead() {
		for at := range len(b) {
			wantNoProgram(t, "cut short", b[:at])
			wantNoProgram(t, "cut short, with nothing behind", slices.Clone(b[:at]))
			packIsRead(t, "begun late", b[at:])
		}
	}
	great, _ := impl.PackFn(packGreat())
	for at := 0; at < len(great); at += 1 + at%13 {
		wantNoProgram(t, "the greatest, cut short", great[:at])
	}
	wantNoProgram(t, "the greatest, without its last byte", great[:len(great)-1])
}

func TestPackMoreBehind(t *testing.T) {
	for _, b := range packRead() {
		for x := range 256 {
			wantNoProgram(t, "one byte more", append(slices.Clone(b), byte(x)))
			wantNoProgram(t, "one byte more ahead", append([]byte{byte(x)}, b...))
		}
		wantNoProgram(t, "twice", slices.Repeat(b, 2))
		wantNoProgram(t, "many times", slices.Repeat(b, 500))
		wantNoProgram(t, "many noughts more", append(slices.Clone(b), make([]byte, 5000)...))
	}
}

// Each number of a program in a form that is longer than it needs to be.
func TestPackFormsNotTheShortest(t *testing.T) {
	for _, f := range []impl.Fn{packSmall(), checkNest(), fnFull(), oneBlock(1, 0, insConst(0, packEnd-1)), oneBlock(80, 79, insConst(70, -packEnd))} {
		forms, _ := packForms(packNumbers(f))
		wantProgram(t, "as short as can be", slices.Concat(forms...), f)
		for i, form := range forms {
			for more := 1; more <= 9; more++ {
				forms[i] = formLonger(form, more)
				wantNoProgram(t, "not the shortest", slices.Concat(forms...))
				packIsRead(t, "not the shortest", slices.Concat(forms...))
			}
			forms[i] = form
		}
		for i, form := range forms {
			forms[i] = formLonger(form, 1)
		}
		wantNoProgram(t, "none is the shortest", slices.Concat(forms...))
	}
}

// packCounts are the places among the numbers of packSmall at which a count stands.
func packCounts() []int {
	return []int{1, 2, 3, 48, 50, 56, 57, 62, 63}
}

// A count that is none: no list is as long, whatever follows.
func TestPackCounts(t *testing.T) {
	list := packNumbers(packSmall())
	for _, at := range packCounts() {
		for _, n := range []int{-1, -2, -8, -24, 17, 25, 26, 100, 255, 256, 1 << 16, 1 << 20, 1 << 31, 1 << 32, 1 << 40, 1 << 61, packEnd - 1, -packEnd, -1 << 32} {
			changed := slices.Clone(list)
			changed[at] = n
			wantNoProgram(t, "a count with all behind it", packBytes(changed...))
			wantNoProgram(t, "a count with nothing behind it", packBytes(changed[:at+1]...))
			wantNoProgram(t, "a count with noughts behind it", append(packBytes(changed[:at+1]...), make([]byte, 3000)...))
		}
		for n := range 26 {
			changed := slices.Clone(list)
			changed[at] = n
			ok := packIsRead(t, "another count", packBytes(changed...))
			if ok != (n == list[at]) {
				t.Errorf("the number %d is %d: %t", at, n, ok)
			}
		}
	}
}

// For a count alone nothing is made.
func TestPackCountsTakeNoMemory(t *testing.T) {
	list := packNumbers(packSmall())
	var before, after runtime.MemStats
	runtime.ReadMemStats(&before)
	for _, at := range packCounts() {
		for _, n := range []int{25, 1 << 20, 1 << 31, 1 << 40, packEnd - 1, -1, -packEnd} {
			ahead := packBytes(list[:at]...)
			wantNoProgram(t, "a count", append(ahead, packBytes(n)...))
		}
	}
	runtime.ReadMemStats(&after)
	if all := after.TotalAlloc - before.TotalAlloc; all > 1<<20 {
		t.Errorf("%d bytes were taken", all)
	}
}

// Each number of a program is another one.
func TestPackNumbersChanged(t *testing.T) {
	var seen [2]int
	for _, f := range []impl.Fn{packSmall(), checkNest(), homeKinds()} {
		list := packNumbers(f)
		for at, was := range list {
			for _, x := range slices.Concat([]int{-1, -2, 79, 80, 81, 127, 128, packEnd - 1, -packEnd}, homeBelow(30)) {
				if x != was {
					list[at] = x
					seen[flag(packIsRead(t, "changed", packBytes(list...)))]++
				}
			}
			list[at] = was
			packIsRead(t, "left out", packBytes(slices.Delete(slices.Clone(list), at, at+1)...))
			for _, x := range []int{0, 1, 2, -1, 64} {
				packIsRead(t, "put in", packBytes(slices.Insert(slices.Clone(list), at, x)...))
			}
		}
	}
	if seen[0] < 3000 || seen[1] < 500 {
		t.Error(seen)
	}
}

// Each byte of a program is each other one, is left out, or has each byte ahead of it.
func TestPackByteByByte(t *testing.T) {
	right, wrong := 0, 0
	look := func(name string, b []byte) {
		ok := packIsRead(t, name, b)
		right, wrong = right+flag(ok), wrong+flag(!ok)
	}
	for _, b := range packRead() {
		for at := range len(b) {
			look("left out", slices.Delete(slices.Clone(b), at, at+1))
			for x := range 256 {
				changed := slices.Clone(b)
				changed[at] = byte(x)
				look("changed", changed)
				look("put in", slices.Insert(slices.Clone(b), at, byte(x)))
			}
		}
	}
	if right < 1000 || wrong < 100000 {
		t.Error(right, wrong)
	}
}

func TestPackDrawnBytes(t *testing.T) {
	d := &drawer{x: 19000}
	var seen [2]int
	for range 20000 {
		b := []byte{}
		for range d.draw(60) {
			b = append(b, byte(d.draw(256)>>d.draw(8)))
		}
		seen[flag(packIsRead(t, "drawn", b))]++
		b = append([]byte{byte(d.draw(10)), 2, 0, byte(2 * d.draw(2))}, b...)
		seen[flag(packIsRead(t, "drawn, with a beginning", b))]++
	}
	for range 3000 {
		b, _ := impl.PackFn(liveAnyOf(d, 1+d.draw(3), 1+d.draw(5), d.draw(5)))
		for range 1 + d.draw(3) {
			at := d.draw(len(b))
			b = slices.Replace(b, at, min(len(b), at+d.draw(3)), bytes.Repeat([]byte{byte(2 * d.draw(6))}, d.draw(3))...)
			if len(b) == 0 {
				break
			}
		}
		seen[flag(packIsRead(t, "changed", b))]++
	}
	if seen[0] < 20000 || seen[1] < 200 {
		t.Error(seen)
	}
}

// All rows of eight bytes of a few kinds: a program of one block with nothing in it is just as long.
func TestPackAllSmall(t *testing.T) {
	kinds := []byte{0, 1, 2, 4, 6}
	read := 0
	for row := range 5 * 5 * 5 * 5 * 5 * 5 * 5 * 5 {
		b := make([]byte, 8)
		for i := range b {
			b[i] = kinds[row%5]
			row /= 5
		}
		read += flag(packIsRead(t, "small", b))
	}
	// a TmJump with each of four counts of values, and for each value of these a TmBranch and a TmBack
	if read != 4+(1+2+3)*2 {
		t.Error(read)
	}
}

// Far more bytes than any program has are none, and are so soon.
func TestPackManyBytes(t *testing.T) {
	great, _ := impl.PackFn(packGreat())
	for _, piece := range [][]byte{{0}, {2}, {128}, {255}, {1, 2}, packCases()[0].bytes, great} {
		long := bytes.Repeat(piece, 1<<20/len(piece)+2)
		wantNoProgram(t, "many bytes", long)
		wantNoProgram(t, "many bytes behind", append(slices.Clone(great), long...))
		for _, at := range []int{0, 1, len(long) - 1} {
			numIsRead(t, long, at)
		}
	}
}

// bytesRoomy has spare room behind the bytes, with something in it.
func bytesRoomy(b []byte) []byte { return append(slices.Clone(b), 0, 2, 129)[:len(b)] }

// Promise 21: neither a program, nor bytes, nor the spare room behind them are written into, and none of it counts.
func TestPackWritesIntoNothing(t *testing.T) {
	for _, c := range plainAnyPrograms() {
		f := fnRoomy(c.f)
		before := fnCopy(fnWhole(f))
		want, ok := packModel(c.f)
		if ok {
			wantPacked(t, c.name+" with room", f, want)
		} else {
			wantNotPacked(t, c.name+" with room", f)
		}
		if !reflect.DeepEqual(fnWhole(f), before) {
			t.Errorf("%s: an argument was written into", c.name)
		}
	}
	for _, b := range append(packRead(), nil, []byte{128}, []byte{0, 2, 0, 128}) {
		for at := range len(b) + 1 {
			roomy := bytesRoomy(b[:at])
			before := slices.Clone(roomy[:cap(roomy)])
			packIsRead(t, "with room", roomy)
			for from := -1; from <= at; from++ {
				numIsRead(t, roomy, from)
			}
			if !bytes.Equal(roomy[:cap(roomy)], before) {
				t.Errorf("an argument was written into: %v", b)
			}
		}
	}
}

// bytesScribble writes over bytes and over all the room behind them.
func bytesScribble(b []byte) {
	b = b[:cap(b)]
	for i := range b {
		b[i] = 99
	}
}

func TestPackAnswersAreNew(t *testing.T) {
	for _, c := range packNumbersByHand() {
		first, second := impl.PackNum(c.x), impl.PackNum(c.x)
		bytesScribble(first)
		if !bytes.Equal(second, c.form) {
			t.Errorf("two forms of %d share memory", c.x)
		}
		lookNumber(t, c.x, c.form)
	}
	none := impl.PackNum(packEnd)
	bytesScribble(none)
	_ = append(none, 5)
	wantNum(t, packEnd, nil)
	d := &drawer{x: 9}
	list := []impl.Fn{packSmall(), packGreat(), checkNest()}
	for range 100 {
		list = append(list, packDrawn(d))
	}
	for _, f := range list {
		packApart(t, f)
	}
	nothing, _ := impl.PackFn(impl.Fn{})
	bytesScribble(nothing)
	_ = append(nothing, 7)
	wantNotPacked(t, "none", impl.Fn{})
	zero, _ := impl.UnpackFn(nil)
	_ = append(zero.Blocks, blockOf(graphTo(0)))
	wantNoProgram(t, "none", nil)
}

// packApart looks that no two answers share memory, nor an answer with an argument, nor two lists of one answer.
func packApart(t *testing.T, f impl.Fn) {
	t.Helper()
	was := fnCopy(f)
	b, _ := impl.PackFn(f)
	again, _ := impl.PackFn(f)
	given := slices.Clone(b)
	first, _ := impl.UnpackFn(given)
	second, _ := impl.UnpackFn(given)
	wantApart(t, "answers", f, first, second)
	bytesScribble(given)
	bytesScribble(again)
	wantFn(t, "the bytes were written over", first, was)
	plainScribble(first)
	wantFn(t, "another answer was written over", second, was)
	plainScribble(f)
	wantProgram(t, "the program was written over", b, was)
	wantPacked(t, "all was written over", was, b)
}

// Lists that share memory with each other in a program are apart in what is read.
func TestPackSharedLists(t *testing.T) {
	arms := []impl.Arm{{From: 1, V: 0}, {From: 0, V: 2}, {From: 2, V: 1}}
	list := []impl.Ins{insOut(0), insOut(1), insOut(2)}
	f := progOf(3,
		impl.Block{Phis: []impl.Phi{{D: 1, Arms: arms}, {D: 2, Arms: arms[:2]}}, List: list, Term: graphTo(1)},
		impl.Block{Phis: []impl.Phi{{D: 0, Arms: arms[1:]}}, List: list[:2], Term: graphTo(2)},
		impl.Block{List: list[1:], Term: graphTo(0)})
	packPromise(t, "shared lists", f)
	b, _ := impl.PackFn(f)
	g, _ := impl.UnpackFn(b)
	wantApart(t, "shared lists", g)
}

// What is answered hangs on the arguments alone, whatever was asked ahead.
func TestPackSameEachTime(t *testing.T) {
	great := packGreat()
	want, _ := packModel(great)
	for range 20 {
		TestPackByHand(t)
		TestPackNumbers(t)
		wantNotPacked(t, "none", impl.Fn{})
		wantNotPacked(t, "N beyond", oneBlock(1, 0, insConst(0, packEnd)))
		wantNoProgram(t, "cut short", want[:len(want)-1])
		wantNoNum(t, []byte{128, 0}, 0)
		wantPacked(t, "the greatest", great, want)
		wantProgram(t, "the greatest", want, great)
	}
}
