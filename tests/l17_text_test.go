package tests

import (
	"fmt"
	"math"
	"math/big"
	"regexp"
	"slices"
	"strings"
	"testing"

	"loop.example/g00192/impl"
)

// A lineCase is a step, and the line that it is written as; an empty one of what is no step.
type lineCase struct {
	name string
	s    impl.Step
	want string
}

// A textCase is a code that is MachineOk, and its lines.
type textCase struct {
	name  string
	list  []impl.Step
	lines []string
}

func wantLine(t *testing.T, name string, s impl.Step, want string) {
	t.Helper()
	if got := impl.StepText(s); got != want {
		t.Errorf("%s: StepText of %+v is %q, not %q", name, s, got, want)
	}
}

func lookLines(t *testing.T, cases []lineCase) {
	t.Helper()
	for _, c := range cases {
		wantLine(t, c.name, c.s, c.want)
	}
}

// textOf is each line with a byte 10 behind it.
func textOf(lines ...string) string {
	text := ""
	for _, l := range lines {
		text += l + "\n"
	}
	return text
}

func wantPrint(t *testing.T, name string, list []impl.Step, want string) {
	t.Helper()
	if got := impl.Print(list); got != want {
		t.Errorf("%s: Print is %q, not %q: %+v", name, got, want, list)
	}
}

func wantParse(t *testing.T, name, text string, want []impl.Step) {
	t.Helper()
	if got, ok := impl.Parse(text); !ok || !slices.Equal(got, want) {
		t.Errorf("%s: Parse of %q is %+v, %t, not %+v", name, text, got, ok, want)
	}
}

func wantNoCode(t *testing.T, name, text string) {
	t.Helper()
	if got, ok := impl.Parse(text); ok || len(got) != 0 {
		t.Errorf("%s: Parse of %q is %+v, %t", name, text, got, ok)
	}
}

func lookText(t *testing.T, c textCase) {
	t.Helper()
	wantPrint(t, c.name, c.list, textOf(c.lines...))
	wantParse(t, c.name, textOf(c.lines...), c.list)
	for i, s := range c.list {
		wantLine(t, c.name, s, c.lines[i])
	}
}

func textCases() []textCase {
	return []textCase{
		{"one step", codeOf(maEnd(0)), []string{"end r0"}},
		{"one step, the last register", codeOf(maEnd(7)), []string{"end r7"}},
		{"a jump to itself", codeOf(maJump(0)), []string{"jump 0"}},
		{"a row", codeOf(maSet(0, 2), maSet(1, -3), maWord(impl.OpAdd, 2, 0, 1), maOut(2), maMove(3, 2), maEnd(3)),
			[]string{"set r0 2", "set r1 -3", "add r2 r0 r1", "out r2", "move r3 r2", "end r3"}},
		{"a loop", codeOf(maRead(1), maZero(1, 5), maOut(1), maPut(3, 1), maJump(0), maGet(2, 3), maEnd(2)),
			[]string{"read r1", "zero r1 5", "out r1", "put s3 r1", "jump 0", "get r2 s3", "end r2"}},
		{"cells", codeOf(maSet(4, 7), maSet(5, 30), maStore(4, 5), maLoad(6, 4), maEnd(6)),
			[]string{"set r4 7", "set r5 30", "store r4 r5", "load r6 r4", "end r6"}},
		{"the last step jumps", codeOf(maOut(1), maJump(0)), []string{"out r1", "jump 0"}},
		{"an end in the midst", codeOf(maEnd(1), maEnd(2), maJump(2)), []string{"end r1", "end r2", "jump 2"}},
		{"words", codeOf(maWord(impl.OpAdd, 0, 1, 2), maWord(impl.OpSub, 1, 2, 3), maWord(impl.OpMul, 2, 3, 4), maWord(impl.OpAnd, 3, 4, 5), maWord(impl.OpOr, 4, 5, 6),
			maWord(impl.OpXor, 5, 6, 7), maWord(impl.OpLess, 6, 7, 0), maWord(impl.OpSame, 7, 0, 1), maWord(impl.OpLeft, 0, 0, 7), maWord(impl.OpRight, 7, 7, 0), maJump(10)),
			[]string{"add r0 r1 r2", "sub r1 r2 r3", "mul r2 r3 r4", "and r3 r4 r5", "or r4 r5 r6", "xor r5 r6 r7", "less r6 r7 r0", "same r7 r0 r1", "left r0 r0 r7", "right r7 r7 r0", "jump 10"}},
		{"the least and the greatest", codeOf(maSet(0, math.MinInt), maSet(0, math.MaxInt), maSet(0, 0), maSet(0, -1), maEnd(0)),
			[]string{"set r0 -9223372036854775808", "set r0 9223372036854775807", "set r0 0", "set r0 -1", "end r0"}},
		{"slots at the edges", codeOf(maPut(0, 7), maPut(39, 0), maGet(0, 0), maGet(7, 39), maEnd(0)),
			[]string{"put s0 r7", "put s39 r0", "get r0 s0", "get r7 s39", "end r0"}},
	}
}

// Each op with numbers that are all apart, by hand: what stands where.
func TestTextSteps(t *testing.T) {
	lookLines(t, []lineCase{
		{"set", maSet(1, 5), "set r1 5"},
		{"move", maMove(1, 2), "move r1 r2"},
		{"get", maGet(1, 5), "get r1 s5"},
		{"put", maPut(5, 2), "put s5 r2"},
		{"load", maLoad(1, 2), "load r1 r2"},
		{"store", maStore(2, 3), "store r2 r3"},
		{"out", maOut(2), "out r2"},
		{"read", maRead(1), "read r1"},
		{"jump", maJump(5), "jump 5"},
		{"zero", maZero(2, 5), "zero r2 5"},
		{"end", maEnd(2), "end r2"},
		{"add", maWord(1, 1, 2, 3), "add r1 r2 r3"},
		{"sub", maWord(2, 1, 2, 3), "sub r1 r2 r3"},
		{"mul", maWord(3, 1, 2, 3), "mul r1 r2 r3"},
		{"and", maWord(4, 1, 2, 3), "and r1 r2 r3"},
		{"or", maWord(5, 1, 2, 3), "or r1 r2 r3"},
		{"xor", maWord(6, 1, 2, 3), "xor r1 r2 r3"},
		{"less", maWord(7, 1, 2, 3), "less r1 r2 r3"},
		{"same", maWord(8, 1, 2, 3), "same r1 r2 r3"},
		{"left", maWord(9, 1, 2, 3), "left r1 r2 r3"},
		{"right", maWord(10, 1, 2, 3), "right r1 r2 r3"},
	})
}

// lineModel is the line of a step by the words of the document.
func lineModel(s impl.Step) string {
	if !stepModel(s, 900) {
		return ""
	}
	switch s.Op {
	case 1:
		return fmt.Sprintf("set r%d %d", s.R, s.N)
	case 2:
		return fmt.Sprintf("move r%d r%d", s.R, s.A)
	case 3:
		return fmt.Sprintf("get r%d s%d", s.R, s.N)
	case 4:
		return fmt.Sprintf("put s%d r%d", s.N, s.A)
	case 5:
		return fmt.Sprintf("load r%d r%d", s.R, s.A)
	case 6:
		return fmt.Sprintf("store r%d r%d", s.A, s.B)
	case 7:
		return fmt.Sprintf("out r%d", s.A)
	case 8:
		return fmt.Sprintf("read r%d", s.R)
	case 9:
		return fmt.Sprintf("jump %d", s.N)
	case 10:
		return fmt.Sprintf("zero r%d %d", s.A, s.N)
	case 11:
		return fmt.Sprintf("end r%d", s.A)
	}
	return fmt.Sprintf("%s r%d r%d r%d", impl.WordName(s.Op-11), s.R, s.A, s.B)
}

func printModel(list []impl.Step) string {
	if !machineOkModel(list) {
		return ""
	}
	lines := []string{}
	for _, s := range list {
		lines = append(lines, lineModel(s))
	}
	return textOf(lines...)
}

// Each op with each register, and with registers that are none.
func TestTextStepsOfAllKinds(t *testing.T) {
	regs := []int{-1, 0, 1, 2, 3, 4, 5, 6, 7, 8}
	right, wrong := 0, 0
	for op := -2; op <= 24; op++ {
		for _, n := range []int{-1, 0, 1, 39, 40, 899, 900} {
			for _, r := range regs {
				for _, a := range regs {
					for _, b := range regs {
						s := impl.Step{Op: op, R: r, A: a, B: b, N: n}
						want := lineModel(s)
						wantLine(t, "all kinds", s, want)
						right, wrong = right+flag(want != ""), wrong+flag(want == "")
					}
				}
			}
		}
	}
	if right < 5000 || wrong < 10000 {
		t.Error(right, wrong)
	}
}

func TestTextNumbersOfSet(t *testing.T) {
	for _, c := range []struct {
		n    int
		want string
	}{
		{0, "0"}, {1, "1"}, {-1, "-1"}, {2, "2"}, {-2, "-2"}, {7, "7"}, {8, "8"}, {9, "9"}, {10, "10"}, {11, "11"}, {-9, "-9"}, {-10, "-10"}, {-11, "-11"},
		{39, "39"}, {40, "40"}, {99, "99"}, {100, "100"}, {101, "101"}, {-100, "-100"}, {899, "899"}, {900, "900"}, {1000000, "1000000"}, {1002003, "1002003"},
		{1 << 31, "2147483648"}, {1<<31 - 1, "2147483647"}, {1 << 32, "4294967296"}, {-1 << 31, "-2147483648"}, {-1<<31 - 1, "-2147483649"},
		{1 << 53, "9007199254740992"}, {1<<53 + 1, "9007199254740993"}, {1000000000000000000, "1000000000000000000"}, {-1000000000000000000, "-1000000000000000000"},
		{math.MaxInt, "9223372036854775807"}, {math.MaxInt - 1, "9223372036854775806"}, {math.MinInt, "-9223372036854775808"}, {math.MinInt + 1, "-9223372036854775807"}, {math.MinInt + 2, "-9223372036854775806"},
	} {
		for r := range 8 {
			lookText(t, textCase{"a number", codeOf(maSet(r, c.n), maEnd(r)), []string{fmt.Sprintf("set r%d ", r) + c.want, fmt.Sprintf("end r%d", r)}})
		}
	}
}

// One more than the greatest and one less than the least number are no numbers, nor is what is far beyond.
func TestTextNumbersBeyond(t *testing.T) {
	for _, n := range []string{"9223372036854775808", "-9223372036854775809", "9223372036854775809", "-9223372036854775810", "9223372036854775817", "9300000000000000000", "10000000000000000000", "-10000000000000000000",
		"9999999999999999999", "-9999999999999999999", "18446744073709551615", "18446744073709551616", "18446744073709551617", "-18446744073709551616", "36893488147419103232", "92233720368547758070", "-92233720368547758080",
		"340282366920938463463374607431768211456", "1" + strings.Repeat("0", 400)} {
		wantNoCode(t, "beyond", textOf("set r0 "+n, "end r0"))
		wantNoCode(t, "beyond", textOf("jump "+n))
		wantNoCode(t, "beyond", textOf("zero r0 "+n, "end r0"))
		wantNoCode(t, "beyond", textOf("get r0 s"+n, "end r0"))
		wantNoCode(t, "beyond", textOf("put s"+n+" r0", "end r0"))
		wantNoCode(t, "beyond", textOf("end r"+n))
	}
}

func TestTextSlots(t *testing.T) {
	for slot := range 40 {
		lookText(t, textCase{"a slot", codeOf(maGet(3, slot), maPut(slot, 6), maEnd(3)),
			[]string{fmt.Sprintf("get r3 s%d", slot), fmt.Sprintf("put s%d r6", slot), "end r3"}})
	}
	for _, slot := range []int{-1, -2, -39, -40, 40, 41, 99, 100, 390, 899, 900, 1 << 32, 1<<32 + 1, math.MaxInt, math.MinInt} {
		lookLines(t, []lineCase{{"no slot", maGet(3, slot), ""}, {"no slot", maPut(slot, 6), ""}})
		wantNoCode(t, "no slot", textOf(fmt.Sprintf("get r3 s%d", slot), "end r3"))
		wantNoCode(t, "no slot", textOf(fmt.Sprintf("put s%d r6", slot), "end r3"))
	}
}

// A place is one of the longest code's for StepText, and one of the code's for Print and Parse.
func TestTextPlaces(t *testing.T) {
	for _, n := range []int{0, 1, 9, 10, 99, 100, 898, 899} {
		lookLines(t, []lineCase{{"a place", maJump(n), fmt.Sprintf("jump %d", n)}, {"a place", maZero(5, n), fmt.Sprintf("zero r5 %d", n)}})
	}
	for _, n := range []int{-1, -2, -899, -900, 900, 901, 9000, 1 << 32, 1<<32 + 1, math.MaxInt, math.MinInt} {
		lookLines(t, []lineCase{{"no place", maJump(n), ""}, {"no place", maZero(5, n), ""}})
		wantNoCode(t, "no place", textOf(fmt.Sprintf("jump %d", n)))
		wantNoCode(t, "no place", textOf(fmt.Sprintf("zero r5 %d", n), "end r5"))
	}
	for n := 1; n <= 12; n++ {
		for to := range 15 {
			ahead, lines := slices.Repeat(codeOf(maOut(1)), n-1), slices.Repeat([]string{"out r1"}, n-1)
			c := textCase{"a place", append(ahead, maJump(to)), append(lines, fmt.Sprintf("jump %d", to))}
			if to < n {
				lookText(t, c)
				continue
			}
			wantPrint(t, "a place that the code does not have", c.list, "")
			wantNoCode(t, "a place that the code does not have", textOf(c.lines...))
		}
	}
}

// Registers that are none, at each place at which a line names one.
func TestTextRegistersThatAreNone(t *testing.T) {
	for _, k := range stepKinds() {
		line := lineModel(stepOfKind(k))
		wantParse(t, "all is right", textOf(line, "out r0", "out r0", "out r0", "out r0", "end r0"), codeOf(stepOfKind(k), maOut(0), maOut(0), maOut(0), maOut(0), maEnd(0)))
		for _, reg := range []string{"r1", "r2", "r3"} {
			if !strings.Contains(line, reg) {
				continue
			}
			for _, x := range []string{"r8", "r9", "r10", "r11", "r-1", "r-2", "r-0", "r00", "r01", "r07", "r+1", "r", "r ", "1", "s1", "R1", "rr1", "r1r", "r1 ", " r1", "r 1", "-r1", "r1.", "r1,", "r0x1", "r1e0", "r1_0", "r1\x00", "r1\t", "r\xff", "r\xc2\xb9", "r256", "r4294967297", "r18446744073709551617"} {
				wantNoCode(t, "no register", textOf(strings.Replace(line, reg, x, 1), "out r0", "out r0", "out r0", "out r0", "end r0"))
			}
		}
	}
}

// What an op does not name, and is not zero: no step.
func TestTextWhatIsNotNamed(t *testing.T) {
	for _, k := range stepKinds() {
		for _, x := range []int{math.MinInt, -1, 1, 7, 8, 900, math.MaxInt} {
			s := stepOfKind(k)
			wantLine(t, "as it is named", s, lineModel(s))
			for _, one := range []struct {
				named bool
				at    *int
			}{{k.r, &s.R}, {k.a, &s.A}, {k.b, &s.B}, {k.n != "", &s.N}} {
				if one.named {
					continue
				}
				*one.at = x
				wantLine(t, "not named", s, "")
				wantPrint(t, "not named", codeOf(s, maOut(0), maOut(0), maOut(0), maOut(0), maEnd(0)), "")
				*one.at = 0
			}
		}
	}
}

func TestTextOpsThatAreNone(t *testing.T) {
	for _, op := range []int{math.MinInt, math.MinInt + 11, math.MinInt + 12, -1 << 32, -21, -12, -11, -1, 0, 22, 23, 24, 25, 31, 32, 33, 255, 257, 1 << 32, 1<<32 + 1, math.MaxInt} {
		for _, s := range []impl.Step{{Op: op}, {Op: op, R: 1}, {Op: op, A: 1}, {Op: op, R: 1, A: 2, B: 3}, {Op: op, N: 1}} {
			wantLine(t, "no op", s, "")
			wantPrint(t, "no op", codeOf(s, maEnd(0)), "")
			wantPrint(t, "no op", codeOf(s), "")
		}
	}
}

func TestTextCases(t *testing.T) {
	for _, c := range textCases() {
		lookText(t, c)
	}
}

// textPromise is promise 17 of one code that is MachineOk.
func textPromise(t *testing.T, name string, list []impl.Step) {
	t.Helper()
	text := impl.Print(list)
	if text != printModel(list) || text == "" {
		t.Errorf("%s: Print is %q: %+v", name, text, list)
	}
	wantParse(t, name, text, list)
}

// Promise 17: what is printed is read as it was.
func TestTextPromise(t *testing.T) {
	for _, c := range machineCases() {
		textPromise(t, c.name, c.list)
	}
	for _, c := range trimCases() {
		textPromise(t, c.name, c.list)
	}
	for _, c := range emitCases() {
		list := emitCodeOf(t, c.f)
		textPromise(t, c.name, list)
		textPromise(t, c.name+" trimmed", impl.Trim(list))
	}
}

func TestTextDrawnCodes(t *testing.T) {
	d := &drawer{x: 17}
	for range 3000 {
		list := machineDrawn(d, 4+d.draw(40))
		for at := range list {
			if list[at].Op == impl.MaSet {
				list[at].N = (d.draw(1<<62) ^ d.draw(1<<62)<<2) >> d.draw(64)
			}
		}
		textPromise(t, "drawn", list)
	}
	for _, n := range []int{100, 899, 900} {
		textPromise(t, "drawn, long", machineDrawn(d, n))
	}
}

// Drawn lists in which one number is another one: printed or not, by the words alone.
func TestTextChangedCodes(t *testing.T) {
	d := &drawer{x: 71}
	var seen [2]int
	for range 10000 {
		list := machineDrawn(d, 4+d.draw(8))
		s := &list[d.draw(len(list))]
		x := []int{-1, 0, 1, 2, 7, 8, 9, 10, 11, 22, 39, 40, len(list) - 1, len(list)}[d.draw(14)]
		*[]*int{&s.Op, &s.R, &s.A, &s.B, &s.N}[d.draw(5)] = x
		ok := machineOkModel(list)
		seen[flag(ok)]++
		if ok {
			textPromise(t, "changed", list)
			continue
		}
		wantPrint(t, "changed", list, "")
	}
	if seen[0] < 2000 || seen[1] < 2000 {
		t.Error(seen)
	}
}

func TestTextAllSmallCodes(t *testing.T) {
	right, wrong := 0, 0
	for n := 1; n <= 4; n++ {
		machinesAll(trimSmall(n), n, nil, func(list []impl.Step) {
			if machineOkModel(list) {
				textPromise(t, "small", list)
				right++
				return
			}
			wantPrint(t, "small", list, "")
			wrong++
		})
	}
	if right < 5000 || wrong < 5000 {
		t.Error(right, wrong)
	}
}

// Limits: a code of MaxCode steps is printed and read, one of one more is not.
func TestTextLimits(t *testing.T) {
	for _, n := range []int{1, 2, 899, 900} {
		outs, lines := append(slices.Repeat(codeOf(maOut(3)), n-1), maEnd(3)), append(slices.Repeat([]string{"out r3"}, n-1), "end r3")
		lookText(t, textCase{"as long as it may be", outs, lines})
		outs[n-1], lines[n-1] = maJump(n-1), fmt.Sprintf("jump %d", n-1)
		lookText(t, textCase{"as long as it may be, with a jump", outs, lines})
		least := append(slices.Repeat(codeOf(maSet(7, math.MinInt)), n-1), maEnd(3))
		lookText(t, textCase{"as many bytes as there may be", least, append(slices.Repeat([]string{"set r7 -9223372036854775808"}, n-1), "end r3")})
	}
	for _, n := range []int{901, 902, 1000, 1800, 20000} {
		wantPrint(t, "too long", append(slices.Repeat(codeOf(maOut(3)), n-1), maEnd(3)), "")
		wantNoCode(t, "too long", strings.Repeat("out r3\n", n-1)+"end r3\n")
		wantNoCode(t, "too long", strings.Repeat("end r3\n", n))
		wantNoCode(t, "too long", strings.Repeat("jump 0\n", n))
	}
	wantNoCode(t, "a place behind the longest code", strings.Repeat("out r3\n", 899)+"jump 900\n")
}

func TestTextPrintNothing(t *testing.T) {
	wantPrint(t, "nil", nil, "")
	wantPrint(t, "no step", []impl.Step{}, "")
	wantPrint(t, "no step, with room behind", codeOf(maEnd(0))[:0], "")
	wantLine(t, "the zero value", impl.Step{}, "")
	for _, c := range textCases() {
		n := len(c.list)
		for _, s := range []impl.Step{{}, {Op: 22}, {Op: -1}, maJump(n), maJump(-1), maZero(0, n), maZero(8, 0), maEnd(8), maEnd(-1), maGet(0, 40), maPut(-1, 0), maMove(8, 8), {Op: impl.MaSet, A: 1}, {Op: impl.MaJump, A: 1}, {Op: impl.MaEnd, N: 1}} {
			for at := range c.list {
				list := slices.Clone(c.list)
				list[at] = s
				wantPrint(t, c.name+" spoilt", list, "")
			}
		}
		for _, s := range codeOf(maOut(0), maZero(0, 0), maSet(0, 0), maRead(0)) {
			wantPrint(t, c.name+" without an end", append(slices.Clone(c.list), s), "")
			wantNoCode(t, c.name+" without an end", textOf(append(slices.Clone(c.lines), lineModel(s))...))
		}
	}
}

// The last step is a MaJump or a MaEnd, or it is no code.
func TestTextLastStep(t *testing.T) {
	for _, k := range stepKinds() {
		s := stepOfKind(k)
		list := codeOf(maOut(0), maOut(0), maOut(0), maOut(0), maOut(0), s)
		text := textOf("out r0", "out r0", "out r0", "out r0", "out r0", lineModel(s))
		if s.Op == impl.MaJump || s.Op == impl.MaEnd {
			wantPrint(t, "an end", list, text)
			wantParse(t, "an end", text, list)
			continue
		}
		wantPrint(t, "no end", list, "")
		wantNoCode(t, "no end", text)
	}
}

// lineBad has lines that are none; most would be one with a byte more or less, or another one.
func lineBad() []string {
	return []string{
		"", " ", "\t", "\r", "\x00", "r0", "0", "r0 1", "-", "s0", "e", "#", "end r0;", "fly r1", "nop", "halt", "step", "word", "const r1 5", "tell r1", "copy r1 r2", "back r0", "branch r0 1 2", "block 0", "phi r0",
		"set", "set ", "set r1", "set r1 ", "set 1 5", "set r1 r5", "set r1 s5", "set s1 5", "set 5 r1", "set r1 5 6", "set r1 5 r2", "set r1 +5", "set r1 05", "set r1 00", "set r1 01", "set r1 -0", "set r1 -01", "set r1 -00", "set r1 --1", "set r1 +-1", "set r1 -", "set r1 +", "set r1 - 5",
		"set r1 5-", "set r1 5.", "set r1 5.0", "set r1 5e1", "set r1 0x5", "set r1 0b1", "set r1 0o7", "set r1 1_000", "set r1 1,000", "set r1 a", "set r1 5a", "set r1 a5", "set r1 NaN", "set r1 Inf", "set r1 \xd9\xa5", "set r1 \xef\xbc\x95", "set r1 \xe2\x88\x925", "set r1 000000000000000000005", "set r1 +0",
		"set r01 5", "set r00 5", "set r8 5", "set r-1 5", "set r+1 5", "set r 5", "set  r1 5", "set r1  5", " set r1 5", "set r1 5 ", "set\tr1 5", "set r1\t5", "\tset r1 5", "set r1 5\t", "set r1 5\r", "\rset r1 5", "set\rr1 5", "set r1\x005", "set r1 5\x00", "\x00set r1 5", "set\xc2\xa0r1 5", "set\xe2\x80\x83r1 5", "\xef\xbb\xbfset r1 5",
		"Set r1 5", "SET r1 5", "set R1 5", "se r1 5", "sett r1 5", "sets r1 5", "et r1 5", "xset r1 5", "set,r1,5", "set r1, 5", "set r1 5\x0b", "set r1 5\x0c", "set r1 5\xc2\x85", "set\xffr1 5", "set r1 5\xc8", "s\xc3\xa9t r1 5", "set(r1, 5)", "1 r1 5",
		"move r1", "move r1 2", "move 1 r2", "move r1 s2", "move s1 r2", "move r1 r2 r3", "move r1 r2 0", "move r1 r02", "mov r1 r2", "moves r1 r2", "Move r1 r2", "2 r1 r2",
		"get r1 5", "get r1 r5", "get s5 r1", "get s1 s5", "get r1 s05", "get r1 s00", "get r1 s40", "get r1 s-1", "get r1 s-0", "get r1 s+5", "get r1 s", "get r1", "get r1 s5 0", "get r1 S5", "get r1 ss5", "get r1 rs5", "GET r1 s5", "ge r1 s5", "gets r1 s5", "get r1 s390",
		"put r1 s5", "put s5", "put s5 1", "put 5 r1", "put r5 r1", "put s5 s1", "put s05 r1", "put s01 r1", "put s00 r1", "put s40 r1", "put s-1 r1", "put s5 r8", "put s5 r1 0", "put s5 r01", "pu s5 r1", "puts s5 r1",
		"load r1", "load r1 s2", "load s1 r2", "load r1 2", "load r1 r2 r3", "load r1 r2 0", "loa r1 r2", "loads r1 r2",
		"store r1", "store r1 s2", "store s1 r2", "store r1 r2 r3", "store r1 r2 0", "stor r1 r2", "stores r1 r2", "store 1 2",
		"out", "out 1", "out s1", "out r1 r1", "out r1 0", "out r8", "out -1", "ou r1", "outs r1", "out r1 r0", "OUT r1",
		"read", "read 1", "read s1", "read r1 r1", "read r1 0", "rea r1", "reads r1", "rread r1",
		"jump", "jump r0", "jump s0", "jump 00", "jump 01", "jump -0", "jump +0", "jump -1", "jump 0 0", "jump 9", "jump 900", "jum 0", "jumps 0", "jump  0", "jump 0 ", "jump 0x0",
		"zero r1", "zero 0", "zero 1 0", "zero r1 r0", "zero s1 0", "zero r1 s0", "zero 0 r1", "zero r1 00", "zero r1 01", "zero r1 -0", "zero r1 +0", "zero r1 -1", "zero r1 0 0", "zero r1 9", "zero r1 900", "zer r1 0", "zeros r1 0",
		"end", "end ", "end 0", "end s0", "end r", "end r8", "end r-1", "end r00", "end r01", "end r07", "end r0 ", "end  r0", "end r0 r0", "end r0 0", "en r0", "ends r0", "eend r0", "End r0", "END r0", "end R0", "end\x00r0", "end r0\x00", "end\tr0", "end r0\xff", "end\xc8r0", "\xc8", "\xff", "\xffend r0",
		"add r1 r2", "add r1 r2 r3 r4", "add r1 r2 3", "add r1 r2 s3", "add s1 r2 r3", "add r1 s2 r3", "add r1 r2 r8", "add r1 r8 r3", "add r8 r2 r3", "add r1 r2 r03", "add r1  r2 r3", "add r1 r2 r3 ", "add r1 r2 r3 0", "ad r1 r2 r3", "adds r1 r2 r3", "Add r1 r2 r3", "add", "12 r1 r2 r3", "add 1 2 3",
		"subs r1 r2 r3", "div r1 r2 r3", "not r1 r2", "xo r1 r2 r3", "o r1 r2 r3", "ore r1 r2 r3", "lessr1 r2 r3", "les r1 r2 r3", "same r1 r2 r2 r2", "left r1 r2 5", "right r1 r2 -1", "mul r1 r2", "and r1 r2", "or r1 r2", "xor r1", "RIGHT r1 r2 r3",
	}
}

// A line that is none spoils all, wherever it stands.
func TestTextBadLines(t *testing.T) {
	good := []string{"read r1", "zero r1 3", "out r1", "end r1"}
	for _, bad := range lineBad() {
		wantNoCode(t, "alone", textOf(bad))
		wantNoCode(t, "alone, without its byte 10", bad)
		wantNoCode(t, "ahead of an end", textOf(bad, "end r0"))
		for at := range 5 {
			wantNoCode(t, "a line more", textOf(slices.Insert(slices.Clone(good), at, bad)...))
			if at < 4 {
				lines := slices.Clone(good)
				lines[at] = bad
				wantNoCode(t, "a line changed", textOf(lines...))
			}
		}
	}
	wantParse(t, "all is right", textOf(good...), codeOf(maRead(1), maZero(1, 3), maOut(1), maEnd(1)))
}

// Of a text with one byte more or less at the wrong place there is no code.
func TestTextLinesEnd(t *testing.T) {
	for _, c := range textCases() {
		text := textOf(c.lines...)
		for name, bad := range map[string]string{
			"without its last byte 10":  strings.TrimSuffix(text, "\n"),
			"with one byte 10 more":     text + "\n",
			"with a byte 10 ahead":      "\n" + text,
			"with a blank ahead":        " " + text,
			"with a blank behind":       text + " ",
			"with a tab behind":         text + "\t",
			"with a nought behind":      text + "\x00",
			"with a byte 13 behind":     text + "\r",
			"with a letter behind":      text + "e",
			"with half a line behind":   text + "end r0",
			"lines end with 13 and 10":  strings.ReplaceAll(text, "\n", "\r\n"),
			"lines end with 10 and 13":  strings.ReplaceAll(text, "\n", "\n\r"),
			"lines end with 13":         strings.ReplaceAll(text, "\n", "\r"),
			"lines end with a nought":   strings.ReplaceAll(text, "\n", "\x00"),
			"lines end with U+2028":     strings.ReplaceAll(text, "\n", "\xe2\x80\xa8"),
			"lines end with ;":          strings.ReplaceAll(text, "\n", ";"),
			"lines with a blank behind": strings.ReplaceAll(text, "\n", " \n"),
			"lines with a tab behind":   strings.ReplaceAll(text, "\n", "\t\n"),
			"empty lines between":       strings.ReplaceAll(text, "\n", "\n\n"),
			"two blanks for one":        strings.ReplaceAll(text, " ", "  "),
			"tabs for blanks":           strings.ReplaceAll(text, " ", "\t"),
			"no blanks":                 strings.ReplaceAll(text, " ", ""),
			"byte 10 for blanks":        strings.ReplaceAll(text, " ", "\n"),
			"no byte 10":                strings.ReplaceAll(text, "\n", ""),
			"in great letters":          strings.ToUpper(text),
			"without registers":         strings.ReplaceAll(text, "r", ""),
			"twice, byte for byte":      doubled(text),
		} {
			if bad != text {
				wantNoCode(t, c.name+" "+name, bad)
			}
		}
	}
}

func doubled(text string) string {
	out := []byte{}
	for _, b := range []byte(text) {
		out = append(out, b, b)
	}
	return string(out)
}

func TestTextNoText(t *testing.T) {
	for _, text := range []string{"", "\n", "\n\n", " ", " \n", "\x00", "\x00\n", "\xff", "\xff\n", "\xc8", "\xc8\n", "\xe2\x80", "\xed\xa0\x80\n", "\xf5\n", "\xef\xbf\xbd\n", "\xef\xbf\xbd", "end r0", "end r0\nend r0", "end r0\n\xff", "\xffend r0\n", "end r0\xc8\n",
		strings.Repeat("\n", 900), strings.Repeat(" ", 5000), strings.Repeat("\xff", 5000), strings.Repeat("\x00", 5000)} {
		wantNoCode(t, "no text", text)
	}
}

// numberText is a number as it is written, up to any size.
const numberText = `(0|-?[1-9][0-9]*)`

// lineText has of each op the text that a line of it has, and where in the step its numbers go.
func lineText() map[string][]string {
	list := map[string][]string{
		`set r([0-7]) ` + numberText:       {"1", "R", "N"},
		`move r([0-7]) r([0-7])`:           {"2", "R", "A"},
		`get r([0-7]) s` + numberText:      {"3", "R", "N"},
		`put s` + numberText + ` r([0-7])`: {"4", "N", "A"},
		`load r([0-7]) r([0-7])`:           {"5", "R", "A"},
		`store r([0-7]) r([0-7])`:          {"6", "A", "B"},
		`out r([0-7])`:                     {"7", "A"},
		`read r([0-7])`:                    {"8", "R"},
		`jump ` + numberText:               {"9", "N"},
		`zero r([0-7]) ` + numberText:      {"10", "A", "N"},
		`end r([0-7])`:                     {"11", "A"},
	}
	for i, name := range []string{"add", "sub", "mul", "and", "or", "xor", "less", "same", "left", "right"} {
		list[name+` r([0-7]) r([0-7]) r([0-7])`] = []string{fmt.Sprint(12 + i), "R", "A", "B"}
	}
	return list
}

// A textReader reads by the words: each line is one of the forms of text that there are, as a whole. It keeps which lines it saw, as
// most texts differ in a few alone.
type textReader struct {
	forms []*regexp.Regexp
	parts [][]string
	seen  map[string]textSeen
}

type textSeen struct {
	s  impl.Step
	ok bool
}

func newTextReader() *textReader {
	r := &textReader{seen: map[string]textSeen{}}
	for form, parts := range lineText() {
		r.forms, r.parts = append(r.forms, regexp.MustCompile(`\A`+form+`\z`)), append(r.parts, parts)
	}
	return r
}

func (r *textReader) line(text string) (impl.Step, bool) {
	if _, known := r.seen[text]; !known {
		s, ok := r.lineAnew(text)
		r.seen[text] = textSeen{s, ok}
	}
	return r.seen[text].s, r.seen[text].ok
}

func (r *textReader) lineAnew(text string) (impl.Step, bool) {
	for i, form := range r.forms {
		found := form.FindStringSubmatch(text)
		if found == nil {
			continue
		}
		found[0] = r.parts[i][0]
		s := impl.Step{}
		at := map[string]*int{"R": &s.R, "A": &s.A, "B": &s.B, "N": &s.N}
		for j, digits := range found {
			x, _ := new(big.Int).SetString(digits, 10)
			if !x.IsInt64() {
				return impl.Step{}, false
			}
			if j == 0 {
				s.Op = int(x.Int64())
				continue
			}
			*at[r.parts[i][j]] = int(x.Int64())
		}
		return s, true
	}
	return impl.Step{}, false
}

func (r *textReader) code(text string) ([]impl.Step, bool) {
	lines := strings.Split(text, "\n")
	if lines[len(lines)-1] != "" {
		return nil, false
	}
	list := []impl.Step{}
	for _, l := range lines[:len(lines)-1] {
		s, ok := r.line(l)
		if !ok {
			return nil, false
		}
		list = append(list, s)
	}
	return list, machineOkModel(list)
}

// textIsRead looks at Parse of any text: by the words, and that whatever is read is printed as just that text.
func textIsRead(t *testing.T, r *textReader, name, text string) bool {
	t.Helper()
	want, ok := r.code(text)
	if !ok {
		wantNoCode(t, name, text)
		return false
	}
	wantParse(t, name, text, want)
	list, _ := impl.Parse(text)
	wantPrint(t, name, list, text)
	return true
}

func TestTextModelOfCases(t *testing.T) {
	r := newTextReader()
	for _, c := range textCases() {
		if !textIsRead(t, r, c.name, textOf(c.lines...)) {
			t.Error(c.name)
		}
	}
	for _, bad := range lineBad() {
		if textIsRead(t, r, "bad", textOf(bad, "end r0")) {
			t.Errorf("%q", bad)
		}
	}
}

// textWhole has a line of each op, and numbers at the edges.
func textWhole() string {
	list := []impl.Step{}
	for _, k := range stepKinds() {
		list = append(list, stepOfKind(k))
	}
	list = append(list, maSet(0, 0), maSet(0, math.MinInt), maSet(0, math.MaxInt), maSet(7, -10), maSet(3, 100), maGet(0, 39), maPut(10, 7), maZero(7, 20), maJump(10), maEnd(0))
	return printModel(list)
}

// Each byte of a text is each other one, is left out, is there twice, or has each byte ahead of it.
func TestTextByteByByte(t *testing.T) {
	r := newTextReader()
	text := textWhole()
	if !textIsRead(t, r, "whole", text) {
		t.Fatal(text)
	}
	right, wrong := 0, 0
	look := func(name, changed string) {
		ok := textIsRead(t, r, name, changed)
		right, wrong = right+flag(ok), wrong+flag(!ok)
	}
	for at := range len(text) {
		look("left out", text[:at]+text[at+1:])
		look("cut off", text[:at])
		look("begun late", text[at:])
		for b := range 256 {
			one := string([]byte{byte(b)})
			look("changed", text[:at]+one+text[at+1:])
			look("one more", text[:at]+one+text[at:])
		}
	}
	if right < 1000 || wrong < 100000 {
		t.Error(right, wrong)
	}
}

// textChanged changes a text at some places: bytes, pieces and lines are others, more or fewer.
func textChanged(d *drawer, text string) string {
	pieces := []string{"", " ", "\n", "-", "0", "1", "9", "r", "s", "r0", "s0", " r1", " 0", "end", "jump", "+", "set r1 ", "end r0\n", "\xff", "\x00", "00", "out r7\n", "-9223372036854775808", "9223372036854775807"}
	for range 1 + d.draw(2) {
		at := d.draw(len(text) + 1)
		to := at + d.draw(min(4, len(text)-at+1))
		text = text[:at] + pieces[d.draw(len(pieces))] + text[to:]
	}
	return text
}

func TestTextChangedTexts(t *testing.T) {
	r := newTextReader()
	d := &drawer{x: 170}
	var seen [2]int
	for range 20000 {
		text := textChanged(d, impl.Print(machineDrawn(d, 4+d.draw(4))))
		seen[flag(textIsRead(t, r, "changed", text))]++
	}
	if seen[0] < 5000 || seen[1] < 200 {
		t.Error(seen)
	}
}

// Texts of the pieces that lines are made of, whatever they come to.
func TestTextDrawnTexts(t *testing.T) {
	r := newTextReader()
	d := &drawer{x: 1717}
	names := []string{"set", "move", "get", "put", "load", "store", "out", "read", "jump", "zero", "end", "add", "or", "less", "right"}
	pieces := []string{"r0", "r7", "r1", "s0", "s39", "0", "1", "-5", "r8", "01"}
	var seen [2]int
	for range 40000 {
		text := ""
		for range 1 + d.draw(2) {
			text += names[d.draw(len(names))]
			for range 1 + d.draw(3) {
				text += " " + pieces[d.draw(len(pieces))]
			}
			text += "\n"
		}
		seen[flag(textIsRead(t, r, "drawn", text))]++
	}
	if seen[0] < 10000 || seen[1] < 100 {
		t.Error(seen)
	}
}

// Texts far longer than any code are no code, and are so soon.
func TestTextLongTexts(t *testing.T) {
	for _, piece := range []string{"end r0\n", "\n", " ", "end r0 ", "x", "\xff", "0", "set r1 0", "out r1\n", "jump 1\n"} {
		wantNoCode(t, "long", strings.Repeat(piece, 1<<18))
		wantNoCode(t, "long, with an end", strings.Repeat(piece, 1<<18)+"\nend r0\n")
	}
	wantNoCode(t, "a long name", strings.Repeat("e", 1<<20)+"nd r0\n")
	wantNoCode(t, "many noughts", "set r1 "+strings.Repeat("0", 1<<20)+"\nend r0\n")
	wantNoCode(t, "many digits", "set r1 "+strings.Repeat("9", 1<<20)+"\nend r0\n")
}

// Promise 21: neither code nor the spare room behind it is written into, and none of it counts.
func TestTextWritesIntoNothing(t *testing.T) {
	look := func(name string, list []impl.Step) {
		t.Helper()
		want, roomy := impl.Print(list), stepsRoomy(list)
		before := slices.Clone(roomy[:cap(roomy)])
		wantPrint(t, name+" with room", roomy, want)
		if !slices.Equal(roomy[:cap(roomy)], before) {
			t.Errorf("%s: an argument was written into", name)
		}
	}
	look("no step", nil)
	for _, c := range textCases() {
		look(c.name, c.list)
		look(c.name+" without its last step", c.list[:len(c.list)-1])
		look(c.name+" with a step behind", append(slices.Clone(c.list), maOut(1)))
	}
	d := &drawer{x: 7}
	for range 300 {
		look("drawn", machineDrawn(d, 4+d.draw(30)))
	}
	look("as long as it may be", machineDrawn(d, 900))
	look("too long", machineDrawn(d, 901))
}

func TestTextSameEachTime(t *testing.T) {
	for range 10 {
		TestTextSteps(t)
		TestTextCases(t)
		wantLine(t, "no step", impl.Step{Op: impl.MaEnd, A: 8}, "")
		wantPrint(t, "no code", codeOf(maOut(1)), "")
		wantNoCode(t, "no code", "out r1\n")
		wantNoCode(t, "no line", "end r8\n")
	}
}

// What is read is new memory each time, and so is the room behind it.
func TestTextAnswersAreNew(t *testing.T) {
	for _, c := range textCases() {
		text := textOf(c.lines...)
		list, _ := impl.Parse(text)
		again, _ := impl.Parse(text)
		for i := range list[:cap(list)] {
			list[:cap(list)][i] = impl.Step{Op: -99, N: i}
		}
		if !slices.Equal(again, c.list) {
			t.Errorf("%s: two answers share memory", c.name)
		}
		wantParse(t, c.name, text, c.list)
	}
	none, _ := impl.Parse("")
	_ = append(none, maOut(5))
	none, _ = impl.Parse("end r0")
	if more := append(none, maOut(6)); more[0] != maOut(6) {
		t.Error(more)
	}
	wantNoCode(t, "nothing", "")
	given := codeOf(maSet(0, 5), maEnd(0))
	text := impl.Print(given)
	clear(given)
	if text != "set r0 5\nend r0\n" {
		t.Errorf("%q", text)
	}
}
