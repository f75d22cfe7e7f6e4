package tests

import (
	"math"
	"math/big"
	"strings"
	"testing"

	"loop.example/g00192/impl"
)

// The numbers and names are written out as the document has them, so that a slip in the program's own numbering shows.
var wordOps = []struct {
	op   int
	num  int
	name string
}{
	{impl.OpAdd, 1, "add"}, {impl.OpSub, 2, "sub"}, {impl.OpMul, 3, "mul"},
	{impl.OpAnd, 4, "and"}, {impl.OpOr, 5, "or"}, {impl.OpXor, 6, "xor"},
	{impl.OpLess, 7, "less"}, {impl.OpSame, 8, "same"},
	{impl.OpLeft, 9, "left"}, {impl.OpRight, 10, "right"},
}

var wordNone = []int{0, 11, 12, 16, 20, 21, 64, 256 + 1, 1<<32 + 1, math.MaxInt, math.MaxInt - 1, -1, -2, -10, -11, -255, math.MinInt, math.MinInt + 1}

var wordSamples = []int{
	0, 1, 2, 3, 5, 6, 7, 10, 12, 31, 32, 33, 62, 63, 64, 65, 66, 127, 128, 1000,
	-1, -2, -3, -5, -9, -31, -32, -62, -63, -64, -65, -128, -1000,
	1<<31 - 1, 1 << 31, 1 << 32, 1<<32 + 1, -1 << 31, -1 << 32, 1 << 62, -1 << 62,
	3037000499, 3037000500, -3037000500, 0x5555555555555555, -0x5555555555555556, 0x0123456789abcdef,
	math.MaxInt, math.MaxInt - 1, math.MinInt, math.MinInt + 1,
}

type wordCase struct{ op, a, b, want int }

func checkWords(t *testing.T, list []wordCase) {
	t.Helper()
	for _, x := range list {
		if got := impl.Word(x.op, x.a, x.b); got != x.want {
			t.Errorf("Word(%d, %d, %d) is %d, not %d", x.op, x.a, x.b, got, x.want)
		}
	}
}

func TestWordOrdinary(t *testing.T) {
	checkWords(t, []wordCase{
		{impl.OpAdd, 2, 3, 5}, {impl.OpAdd, -7, 3, -4},
		{impl.OpSub, 10, 3, 7}, {impl.OpSub, 3, 10, -7}, {impl.OpSub, -3, -10, 7},
		{impl.OpMul, 6, 7, 42}, {impl.OpMul, -4, 5, -20}, {impl.OpMul, -4, -5, 20}, {impl.OpMul, 9, 0, 0},
		{impl.OpAnd, 12, 10, 8}, {impl.OpAnd, -1, 77, 77}, {impl.OpAnd, -4, 7, 4},
		{impl.OpOr, 12, 10, 14}, {impl.OpOr, -4, 1, -3},
		{impl.OpXor, 12, 10, 6}, {impl.OpXor, -1, 5, -6}, {impl.OpXor, 9, 9, 0},
		{impl.OpLess, 2, 3, 1}, {impl.OpLess, 3, 3, 0}, {impl.OpLess, 4, 3, 0}, {impl.OpLess, -1, 0, 1}, {impl.OpLess, 0, -1, 0},
		{impl.OpSame, 3, 3, 1}, {impl.OpSame, 2, 3, 0}, {impl.OpSame, -3, 3, 0}, {impl.OpSame, -3, -3, 1},
		{impl.OpLeft, 3, 2, 12}, {impl.OpLeft, -3, 2, -12},
		{impl.OpRight, 12, 2, 3}, {impl.OpRight, 13, 2, 3}, {impl.OpRight, -9, 1, -5},
	})
}

func TestWordBeyond64Bits(t *testing.T) {
	most, least := math.MaxInt, math.MinInt
	checkWords(t, []wordCase{
		{impl.OpAdd, most, 1, least}, {impl.OpAdd, 1, most, least}, {impl.OpAdd, least, -1, most},
		{impl.OpAdd, most, most, -2}, {impl.OpAdd, least, least, 0}, {impl.OpAdd, most, least, -1},
		{impl.OpSub, least, 1, most}, {impl.OpSub, most, -1, least}, {impl.OpSub, 0, least, least},
		{impl.OpSub, -1, least, most}, {impl.OpSub, least, most, 1}, {impl.OpSub, most, least, -1}, {impl.OpSub, least, least, 0},
		{impl.OpMul, least, -1, least}, {impl.OpMul, -1, least, least}, {impl.OpMul, least, least, 0}, {impl.OpMul, least, 2, 0},
		{impl.OpMul, most, most, 1}, {impl.OpMul, most, 2, -2}, {impl.OpMul, most, least, least},
		{impl.OpMul, 1 << 32, 1 << 32, 0}, {impl.OpMul, 1 << 32, 1 << 31, least}, {impl.OpMul, 3037000500, 3037000500, -9223372036709301616},
		{impl.OpAnd, least, most, 0}, {impl.OpAnd, least, -1, least},
		{impl.OpOr, least, most, -1}, {impl.OpXor, least, most, -1}, {impl.OpXor, least, -1, most},
		{impl.OpLess, least, most, 1}, {impl.OpLess, most, least, 0}, {impl.OpLess, least, least, 0}, {impl.OpLess, most, most, 0},
		{impl.OpLess, least, least + 1, 1}, {impl.OpLess, most - 1, most, 1},
		{impl.OpSame, least, least, 1}, {impl.OpSame, most, most, 1}, {impl.OpSame, least, most, 0}, {impl.OpSame, least, 0, 0},
	})
}

func TestWordShifts(t *testing.T) {
	most, least := math.MaxInt, math.MinInt
	checkWords(t, []wordCase{
		{impl.OpLeft, 5, 0, 5}, {impl.OpLeft, 1, 62, 1 << 62}, {impl.OpLeft, 1, 63, least}, {impl.OpLeft, 2, 63, 0}, {impl.OpLeft, -1, 63, least}, {impl.OpLeft, most, 1, -2},
		{impl.OpLeft, 5, 64, 5}, {impl.OpLeft, 5, 65, 10}, {impl.OpLeft, 3, 66, 12}, {impl.OpLeft, 1, 127, least}, {impl.OpLeft, 5, 128, 5},
		{impl.OpLeft, 5, 1 << 32, 5}, {impl.OpLeft, 5, 1<<32 + 1, 10}, {impl.OpLeft, 1, most, least}, {impl.OpLeft, 5, 1 << 62, 5},
		{impl.OpLeft, 1, -1, least}, {impl.OpLeft, 1, -2, 1 << 62}, {impl.OpLeft, 5, -63, 10}, {impl.OpLeft, 5, -64, 5}, {impl.OpLeft, 1, -65, least}, {impl.OpLeft, 5, least, 5}, {impl.OpLeft, 5, least + 1, 10},
		{impl.OpRight, 5, 0, 5}, {impl.OpRight, -5, 0, -5}, {impl.OpRight, most, 62, 1}, {impl.OpRight, most, 63, 0}, {impl.OpRight, least, 63, -1}, {impl.OpRight, -1, 63, -1}, {impl.OpRight, least, 62, -2},
		{impl.OpRight, -1, 1, -1}, {impl.OpRight, -2, 1, -1}, {impl.OpRight, -8, 2, -2}, {impl.OpRight, -7, 2, -2}, {impl.OpRight, least, 1, -1 << 62},
		{impl.OpRight, -9, 64, -9}, {impl.OpRight, -9, 65, -5}, {impl.OpRight, 12, 66, 3}, {impl.OpRight, -9, 127, -1}, {impl.OpRight, -9, 128, -9},
		{impl.OpRight, -9, 1 << 32, -9}, {impl.OpRight, -9, 1<<32 + 1, -5}, {impl.OpRight, -9, most, -1}, {impl.OpRight, 9, most, 0},
		{impl.OpRight, -9, -1, -1}, {impl.OpRight, 9, -1, 0}, {impl.OpRight, most, -2, 1}, {impl.OpRight, -9, -63, -5}, {impl.OpRight, -9, -64, -9}, {impl.OpRight, -9, least, -9}, {impl.OpRight, -9, least + 1, -5},
	})
}

// wrapped reads x modulo 2 to the power 64, with a sign.
func wrapped(x *big.Int) int {
	low := new(big.Int).And(x, new(big.Int).SetUint64(math.MaxUint64))
	return int(low.Uint64())
}

func flag(holds bool) int {
	if holds {
		return 1
	}
	return 0
}

// wordByBig reckons an op with numbers of any size, so that it shares no wrap-round with the program.
func wordByBig(op int, a int, b int) int {
	x, y, z := big.NewInt(int64(a)), big.NewInt(int64(b)), new(big.Int)
	by := uint(new(big.Int).Mod(y, big.NewInt(64)).Uint64())
	switch op {
	case 1:
		return wrapped(z.Add(x, y))
	case 2:
		return wrapped(z.Sub(x, y))
	case 3:
		return wrapped(z.Mul(x, y))
	case 4:
		return wrapped(z.And(x, y))
	case 5:
		return wrapped(z.Or(x, y))
	case 6:
		return wrapped(z.Xor(x, y))
	case 7:
		return flag(x.Cmp(y) < 0)
	case 8:
		return flag(x.Cmp(y) == 0)
	case 9:
		return wrapped(z.Lsh(x, by))
	case 10:
		return wrapped(z.Rsh(x, by))
	}
	return 0
}

func TestWordIsAsWithNumbersOfAnySize(t *testing.T) {
	for _, o := range wordOps {
		for _, a := range wordSamples {
			for _, b := range wordSamples {
				checkWords(t, []wordCase{{o.num, a, b, wordByBig(o.num, a, b)}})
			}
		}
	}
}

func TestWordGoesTogether(t *testing.T) {
	w := impl.Word
	for _, a := range wordSamples {
		for _, b := range wordSamples {
			for _, op := range []int{impl.OpAdd, impl.OpMul, impl.OpAnd, impl.OpOr, impl.OpXor, impl.OpSame} {
				if w(op, a, b) != w(op, b, a) {
					t.Errorf("%s of %d and %d is not so both ways round", impl.WordName(op), a, b)
				}
			}
			if w(impl.OpSub, w(impl.OpAdd, a, b), b) != a {
				t.Errorf("%d and %d less %d", a, b, b)
			}
			if w(impl.OpAdd, w(impl.OpAnd, a, b), w(impl.OpOr, a, b)) != w(impl.OpAdd, a, b) {
				t.Errorf("both and one of %d, %d", a, b)
			}
			if w(impl.OpXor, a, b) != w(impl.OpSub, w(impl.OpOr, a, b), w(impl.OpAnd, a, b)) {
				t.Errorf("just one of %d, %d", a, b)
			}
			if w(impl.OpLess, a, b)+w(impl.OpLess, b, a)+w(impl.OpSame, a, b) != 1 {
				t.Errorf("less and same of %d, %d", a, b)
			}
			if w(impl.OpLeft, a, b) != w(impl.OpMul, a, w(impl.OpLeft, 1, b)) {
				t.Errorf("%d shifted left by %d is no product", a, b)
			}
			for _, c := range []int{0, 1, -1, 7, math.MaxInt, math.MinInt} {
				if w(impl.OpMul, c, w(impl.OpAdd, a, b)) != w(impl.OpAdd, w(impl.OpMul, c, a), w(impl.OpMul, c, b)) {
					t.Errorf("%d times the sum of %d and %d", c, a, b)
				}
			}
		}
	}
}

func TestWordNamesAndNumbers(t *testing.T) {
	for _, o := range wordOps {
		if o.op != o.num {
			t.Errorf("the op %s is %d, not %d", o.name, o.op, o.num)
		}
		if !impl.WordOk(o.num) {
			t.Errorf("WordOk(%d) is false", o.num)
		}
		if got := impl.WordName(o.num); got != o.name {
			t.Errorf("WordName(%d) is %q, not %q", o.num, got, o.name)
		}
		if got := impl.WordOf(o.name); got != o.num {
			t.Errorf("WordOf(%q) is %d, not %d", o.name, got, o.num)
		}
	}
}

func TestWordOpsThatAreNone(t *testing.T) {
	for _, op := range wordNone {
		if impl.WordOk(op) {
			t.Errorf("WordOk(%d) is true", op)
		}
		if got := impl.WordName(op); got != "" {
			t.Errorf("WordName(%d) is %q", op, got)
		}
		for _, a := range wordSamples {
			for _, b := range wordSamples {
				checkWords(t, []wordCase{{op, a, b, 0}})
			}
		}
	}
	for op := -300; op <= 300; op++ {
		if in := op >= 1 && op <= 10; impl.WordOk(op) != in || (impl.WordName(op) != "") != in {
			t.Errorf("%d: WordOk %v, WordName %q", op, impl.WordOk(op), impl.WordName(op))
		}
	}
}

func TestWordNamesThatAreNone(t *testing.T) {
	list := []string{"", " ", "x", "?", "0", "1", "10", "ad", "addd", "addsub", "shift", "not", "div", "lessthan", "\x00", "\xff\xfe", strings.Repeat("add", 1000)}
	for _, o := range wordOps {
		n := o.name
		list = append(list, strings.ToUpper(n), strings.ToUpper(n[:1])+n[1:], n[:len(n)-1]+strings.ToUpper(n[len(n)-1:]))
		list = append(list, n+" ", n+"\n", n+"\x00", n+"s", n+n, " "+n, "z"+n, n[:len(n)-1])
	}
	for _, name := range list {
		if got := impl.WordOf(name); got != 0 {
			t.Errorf("WordOf(%q) is %d", name, got)
		}
	}
}

// Promise 21 for words: whatever was asked between, the same is answered again.
func TestWordKeepsNothing(t *testing.T) {
	for _, o := range wordOps {
		name := []byte(o.name)
		first, word := impl.WordOf(string(name)), impl.Word(o.num, -77, 13)
		name[0]++
		for _, op := range wordNone {
			impl.Word(op, 1, 2)
			impl.WordName(op)
			impl.WordOf(string(name))
		}
		if impl.WordOf(o.name) != first || impl.Word(o.num, -77, 13) != word || impl.WordName(o.num) != o.name {
			t.Errorf("%s is another one the second time", o.name)
		}
	}
}
