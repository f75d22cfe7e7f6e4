package tests

import (
	"bytes"
	"fmt"
	"math"
	"reflect"
	"slices"
	"strconv"
	"strings"
	"sync"
	"testing"

	"loop.example/g00192/impl"
)

// A deskCase is a program, and its lines by hand.
type deskCase struct {
	name  string
	f     impl.Fn
	lines []string
}

// A reportCase is a program, what it is run with, and what is told of it by hand.
type reportCase struct {
	name  string
	f     impl.Fn
	reads []int
	fuel  int
	want  string
}

// The first test of this file, as nothing ahead of it has asked for a program's lines: so the first call of all is one of many at once.
// The race detector, where it is there, looks on.
func TestDeskFromManyAtOnce(t *testing.T) {
	shows, reports := deskCases(), reportCases()
	start := make(chan int)
	var all sync.WaitGroup
	for range 64 {
		all.Add(1)
		go func() {
			defer all.Done()
			<-start
			for range 20 {
				lookShows(t, shows)
				lookReports(t, reports)
				wantShow(t, "none", impl.Fn{}, "")
				deskNames(t)
			}
		}()
	}
	close(start)
	all.Wait()
}

func wantShow(t *testing.T, name string, f impl.Fn, want string) {
	t.Helper()
	if got := impl.Show(f); got != want {
		t.Errorf("%s: Show is %q, not %q: %+v", name, got, want, f)
	}
}

func lookShows(t *testing.T, cases []deskCase) {
	t.Helper()
	for _, c := range cases {
		wantShow(t, c.name, c.f, textOf(c.lines...))
	}
}

func wantReport(t *testing.T, name string, f impl.Fn, reads []int, fuel int, want string) {
	t.Helper()
	if got := impl.Report(f, reads, fuel); got != want {
		t.Errorf("%s: Report with %v and fuel %d is %q, not %q: %+v", name, reads, fuel, got, want, f)
	}
}

func lookReports(t *testing.T, cases []reportCase) {
	t.Helper()
	for _, c := range cases {
		wantReport(t, c.name, c.f, c.reads, c.fuel, c.want)
	}
}

// deskNames looks at the names of all codes that there are, by the numbers of the document and by its words.
func deskNames(t *testing.T) {
	t.Helper()
	for code, want := range []string{"well", "shape", "dead", "entry", "arms", "twice", "taken"} {
		if got := impl.CheckName(code); got != want {
			t.Errorf("CheckName of %d is %q, not %q", code, got, want)
		}
	}
	for code, want := range []string{"done", "fuel", "cell", "bad"} {
		if got := impl.RunName(code); got != want {
			t.Errorf("RunName of %d is %q, not %q", code, got, want)
		}
	}
}

func TestDeskNames(t *testing.T) {
	deskNames(t)
	for want, code := range map[string]int{"well": impl.CkWell, "shape": impl.CkShape, "dead": impl.CkDead, "entry": impl.CkEntry, "arms": impl.CkArms, "twice": impl.CkTwice, "taken": impl.CkTaken} {
		if got := impl.CheckName(code); got != want {
			t.Errorf("CheckName of %d is %q, not %q", code, got, want)
		}
	}
	for want, code := range map[string]int{"done": impl.RnDone, "fuel": impl.RnFuel, "cell": impl.RnCell, "bad": impl.RnBad} {
		if got := impl.RunName(code); got != want {
			t.Errorf("RunName of %d is %q, not %q", code, got, want)
		}
	}
}

func TestDeskNamesOfNone(t *testing.T) {
	far := []int{256, 256 + 1, 512, 1 << 16, 1 << 31, 1 << 32, 1<<32 + 1, 1<<32 + 6, -1 << 31, -1 << 32, -1<<32 + 1, math.MaxInt, math.MaxInt - 1, math.MinInt, math.MinInt + 1, math.MinInt + 3}
	for code := -300; code <= 300; code++ {
		far = append(far, code)
	}
	for _, code := range far {
		if got := impl.CheckName(code); (got == "") != (code < 0 || code > 6) {
			t.Errorf("CheckName of %d is %q", code, got)
		}
		if got := impl.RunName(code); (got == "") != (code < 0 || code > 3) {
			t.Errorf("RunName of %d is %q", code, got)
		}
	}
}

// deskWords has each op of chapter 1, with numbers of one digit and of two.
func deskWords() deskCase {
	return deskCase{"words", oneBlock(80, 9,
		insOp(1, 0, 1, 2), insOp(2, 3, 4, 5), insOp(3, 10, 0, 9), insOp(4, 9, 10, 11), insOp(5, 79, 79, 79),
		insOp(6, 1, 1, 70), insOp(7, 12, 7, 0), insOp(8, 0, 0, 0), insOp(9, 33, 34, 35), insOp(10, 40, 9, 78)),
		[]string{"block 0",
			"add v0 v1 v2", "sub v3 v4 v5", "mul v10 v0 v9", "and v9 v10 v11", "or v79 v79 v79",
			"xor v1 v1 v70", "less v12 v7 v0", "same v0 v0 v0", "left v33 v34 v35", "right v40 v9 v78", "back v9"}}
}

// deskPlaces has each kind of place beside the ops of chapter 1.
func deskPlaces() deskCase {
	return deskCase{"places", oneBlock(80, 0,
		insConst(0, 0), insConst(1, 7), insConst(20, -1), insConst(3, 10), insConst(4, -10), insConst(5, math.MaxInt), insConst(79, math.MinInt), insConst(7, 1<<32),
		insLoad(8, 9), insLoad(79, 10), insStore(1, 2), insStore(30, 4), insOut(0), insOut(79), insRead(0), insRead(15), insCopy(1, 0), insCopy(16, 17)),
		[]string{"block 0",
			"const v0 0", "const v1 7", "const v20 -1", "const v3 10", "const v4 -10", "const v5 9223372036854775807", "const v79 -9223372036854775808", "const v7 4294967296",
			"load v8 v9", "load v79 v10", "store v1 v2", "store v30 v4", "tell v0", "tell v79", "read v0", "read v15", "copy v1 v0", "copy v16 v17", "back v0"}}
}

// deskEnds has each kind of end, with numbers of one digit and of two, and phis.
func deskEnds() []deskCase {
	far := fnOf(80, 16)
	far.Blocks[9].Term = graphTo(15)
	far.Blocks[10].Term = termBranch(79, 10, 9)
	far.Blocks[11].Term = termBranch(5, 11, 11)
	far.Blocks[15].Term = termBack(10)
	far.Blocks[15].Phis = []impl.Phi{phiOf(12), phiOf(3, [2]int{15, 78}, [2]int{0, 1}, [2]int{10, 10}), phiOf(12, [2]int{9, 9})}
	lines := []string{}
	for b := range 16 {
		lines = append(lines, "block "+strconv.Itoa(b))
		switch b {
		case 9:
			lines = append(lines, "jump 15")
		case 10:
			lines = append(lines, "branch v79 10 9")
		case 11:
			lines = append(lines, "branch v5 11 11")
		case 15:
			lines = append(lines, "phi v12", "phi v3 15:v78 0:v1 10:v10", "phi v12 9:v9", "back v10")
		default:
			lines = append(lines, "jump 0")
		}
	}
	return []deskCase{
		{"a jump alone", progOf(0, blockOf(graphTo(0))), []string{"block 0", "jump 0"}},
		{"an end alone", progOf(1, blockOf(termBack(0))), []string{"block 0", "back v0"}},
		{"a branch alone", progOf(2, blockOf(termBranch(1, 0, 0))), []string{"block 0", "branch v1 0 0"}},
		{"blocks with nothing but their ends", progOf(3, blockOf(termBranch(0, 1, 2)), blockOf(graphTo(2)), blockOf(termBack(2))), []string{"block 0", "branch v0 1 2", "block 1", "jump 2", "block 2", "back v2"}},
		{"To and Else in their order", progOf(1, blockOf(termBranch(0, 1, 0)), blockOf(termBranch(0, 0, 1))), []string{"block 0", "branch v0 1 0", "block 1", "branch v0 0 1"}},
		{"many blocks", far, lines},
	}
}

func deskPhis() []deskCase {
	return []deskCase{
		{"phis ahead of places", progOf(4, withPhis(blockOf(graphTo(0), insOut(3), insRead(2)), phiOf(1), phiOf(0, [2]int{0, 2}))), []string{"block 0", "phi v1", "phi v0 0:v2", "tell v3", "read v2", "jump 0"}},
		{"arms as they stand", progOf(5, blockOf(graphTo(1)), withPhis(blockOf(graphTo(2)), phiOf(4, [2]int{2, 0}, [2]int{0, 3}, [2]int{1, 1}), phiOf(3, [2]int{1, 0}, [2]int{0, 0})), blockOf(graphTo(1))),
			[]string{"block 0", "jump 1", "block 1", "phi v4 2:v0 0:v3 1:v1", "phi v3 1:v0 0:v0", "jump 2", "block 2", "jump 1"}},
		{"phis alike", progOf(2, withPhis(blockOf(termBack(0)), phiOf(1, [2]int{0, 1}), phiOf(1, [2]int{0, 1}), phiOf(1))), []string{"block 0", "phi v1 0:v1", "phi v1 0:v1", "phi v1", "back v0"}},
	}
}

// deskOrdinary are programs that are well.
func deskOrdinary() []deskCase {
	return []deskCase{
		{"straight on", checkStraight(), []string{"block 0", "const v0 7", "read v1", "jump 1", "block 1", "add v2 v0 v1", "tell v2", "jump 2", "block 2", "add v3 v2 v0", "back v3"}},
		{"a branch that joins", checkJoin(), []string{"block 0", "read v0", "branch v0 1 2", "block 1", "const v1 1", "jump 3", "block 2", "const v2 2", "tell v2", "jump 3", "block 3", "phi v3 1:v1 2:v2", "add v4 v3 v0", "back v4"}},
		{"a loop", checkLoop(), []string{"block 0", "const v0 3", "const v1 1", "const v2 0", "jump 1", "block 1", "phi v3 0:v0 2:v5", "phi v4 0:v2 2:v6", "branch v3 2 3", "block 2", "tell v3", "sub v5 v3 v1", "add v6 v4 v3", "jump 1", "block 3", "back v4"}},
		{"a loop in a loop", checkNest(), []string{"block 0", "read v0", "const v1 -1", "jump 1", "block 1", "phi v2 0:v0 4:v6", "branch v2 2 5", "block 2", "phi v3 1:v2 3:v4", "branch v3 3 4", "block 3", "add v4 v3 v1", "tell v4", "jump 2", "block 4", "add v6 v2 v1", "jump 1", "block 5", "add v5 v2 v0", "tell v0", "back v5"}},
		{"cells", runCells(), []string{"block 0", "const v0 0", "const v1 7", "read v2", "read v3", "store v0 v2", "store v1 v3", "jump 1", "block 1", "load v4 v1", "load v5 v0", "tell v4", "tell v5", "const v6 3", "load v7 v6", "tell v7", "store v0 v4", "load v7 v0", "back v7"}},
	}
}

// deskOdd are programs that have a shape, but are not well.
func deskOdd() []deskCase {
	return []deskCase{
		{"dead blocks", progOf(2, blockOf(termBack(0), insRead(0)), blockOf(graphTo(2), insConst(1, -5)), blockOf(graphTo(1), insOut(1))), []string{"block 0", "read v0", "back v0", "block 1", "const v1 -5", "jump 2", "block 2", "tell v1", "jump 1"}},
		{"made twice", progOf(1, blockOf(termBack(0), insConst(0, 1), insConst(0, 1), insRead(0))), []string{"block 0", "const v0 1", "const v0 1", "read v0", "back v0"}},
		{"taken where it is nowhere made", progOf(3, blockOf(termBack(2), insAdd(0, 1, 0))), []string{"block 0", "add v0 v1 v0", "back v2"}},
		{"a way back to block 0, which has phis", progOf(2, withPhis(blockOf(graphTo(0)), phiOf(0, [2]int{0, 1}))), []string{"block 0", "phi v0 0:v1", "jump 0"}},
		{"arms from elsewhere", progOf(2, blockOf(graphTo(1), insRead(0)), withPhis(blockOf(termBack(1)), phiOf(1, [2]int{1, 0}))), []string{"block 0", "read v0", "jump 1", "block 1", "phi v1 1:v0", "back v1"}},
		{"copies", progOf(2, blockOf(termBack(1), insRead(0), insCopy(1, 0), insCopy(0, 0))), []string{"block 0", "read v0", "copy v1 v0", "copy v0 v0", "back v1"}},
		{"packed elsewhere", packSmall(), []string{
			"block 0", "const v0 -3", "read v1", "load v2 v1", "store v3 v2", "tell v2", "copy v3 v4", "sub v4 v3 v1", "const v4 150", "branch v4 1 2",
			"block 1", "phi v3 0:v1 2:v4", "phi v0", "jump 2",
			"block 2", "const v1 -65", "back v3"}},
	}
}

func deskCases() []deskCase {
	return slices.Concat([]deskCase{deskWords(), deskPlaces()}, deskEnds(), deskPhis(), deskOrdinary(), deskOdd())
}

func TestShowByHand(t *testing.T) {
	lookShows(t, deskCases())
	for _, c := range deskCases() {
		deskPromise(t, c.name, c.f)
	}
}

// Each kind of place alone, byte by byte.
func TestShowEachKind(t *testing.T) {
	for op, want := range map[int]string{
		1: "add v10 v2 v3", 2: "sub v10 v2 v3", 3: "mul v10 v2 v3", 4: "and v10 v2 v3", 5: "or v10 v2 v3", 6: "xor v10 v2 v3", 7: "less v10 v2 v3", 8: "same v10 v2 v3", 9: "left v10 v2 v3", 10: "right v10 v2 v3",
		20: "const v10 -40", 21: "load v10 v2", 22: "store v2 v3", 23: "tell v2", 24: "read v10", 25: "copy v10 v2",
	} {
		at := slices.IndexFunc(placeKinds, func(k placeKind) bool { return k.num == op })
		wantShow(t, "a place", oneBlock(11, 0, placeIns(placeKinds[at], 10, 2, 3, -40)), "block 0\n"+want+"\nback v0\n")
	}
	for kind, want := range map[int]string{1: "jump 1", 2: "branch v10 1 0", 3: "back v10"} {
		wantShow(t, "an end", progOf(11, blockOf(termOf(termKinds[kind-1], 10, 1, 0)), blockOf(graphTo(0))), "block 0\n"+want+"\nblock 1\njump 0\n")
	}
}

// Nothing but the number of what is shown changes a line, and it is that in digits.
func TestShowNumbers(t *testing.T) {
	list := []int{0, 1, 9, 10, 11, 99, 100, 101, 1000, 1 << 31, 1 << 32, 1 << 62, math.MaxInt - 1, math.MaxInt}
	for _, x := range list {
		digits := new(bytes.Buffer)
		fmt.Fprintf(digits, "%d", x)
		wantShow(t, "N", oneBlock(1, 0, insConst(0, x)), "block 0\nconst v0 "+digits.String()+"\nback v0\n")
		if x > 0 {
			wantShow(t, "N below 0", oneBlock(1, 0, insConst(0, -x)), "block 0\nconst v0 -"+digits.String()+"\nback v0\n")
		}
	}
	wantShow(t, "the least N", oneBlock(1, 0, insConst(0, math.MinInt)), "block 0\nconst v0 -9223372036854775808\nback v0\n")
	for v := range 80 {
		n := strconv.Itoa(v)
		f := progOf(80, withPhis(blockOf(termBranch(v, 0, 0), insOp(2, v, v, v), insConst(v, v), insLoad(v, v), insStore(v, v), insOut(v), insRead(v), insCopy(v, v)), phiOf(v, [2]int{0, v})))
		want := strings.ReplaceAll("block 0\nphi v? 0:v?\nsub v? v? v?\nconst v? ?\nload v? v?\nstore v? v?\ntell v?\nread v?\ncopy v? v?\nbranch v? 0 0\n", "?", n)
		wantShow(t, "each value", f, want)
	}
	for b := range 16 {
		n := strconv.Itoa(b)
		f := fnWithPhi(2, 16, phiOf(1, [2]int{b, 0}))
		f.Blocks[15].Term = termBranch(1, b, b)
		text := impl.Show(f)
		if !strings.HasSuffix(text, "block 15\nphi v1 "+n+":v0\nbranch v1 "+n+" "+n+"\n") || strings.Count(text, "block "+n+"\n") != 1 {
			t.Errorf("block %d: %q", b, text)
		}
	}
}

// An empty list and nil are the same.
func TestShowEmptyLists(t *testing.T) {
	f := impl.Fn{Values: 1, Blocks: []impl.Block{{Phis: []impl.Phi{{D: 0, Arms: []impl.Arm{}}}, List: []impl.Ins{}, Term: graphTo(1)}, {Phis: []impl.Phi{}, Term: graphTo(0)}}}
	want := "block 0\nphi v0\njump 1\nblock 1\njump 0\n"
	wantShow(t, "empty", f, want)
	f.Blocks[0].Phis[0].Arms, f.Blocks[0].List, f.Blocks[1].Phis = nil, nil, nil
	wantShow(t, "nil", f, want)
}

// insShown is the line of a place by the words of the document.
func insShown(x impl.Ins) string {
	switch x.Op {
	case 20:
		return fmt.Sprintf("const v%d %d", x.D, x.N)
	case 21:
		return fmt.Sprintf("load v%d v%d", x.D, x.A)
	case 22:
		return fmt.Sprintf("store v%d v%d", x.A, x.B)
	case 23:
		return fmt.Sprintf("tell v%d", x.A)
	case 24:
		return fmt.Sprintf("read v%d", x.D)
	case 25:
		return fmt.Sprintf("copy v%d v%d", x.D, x.A)
	}
	names := strings.Fields("add sub mul and or xor less same left right")
	return fmt.Sprintf("%s v%d v%d v%d", names[x.Op-1], x.D, x.A, x.B)
}

func termShown(e impl.Term) string {
	switch e.Kind {
	case 1:
		return fmt.Sprintf("jump %d", e.To)
	case 2:
		return fmt.Sprintf("branch v%d %d %d", e.A, e.To, e.Else)
	}
	return fmt.Sprintf("back v%d", e.A)
}

// showModel are the lines of a program by the words of the document.
func showModel(f impl.Fn) string {
	if !impl.ShapeOk(f) {
		return ""
	}
	lines := []string{}
	for b, block := range f.Blocks {
		lines = append(lines, fmt.Sprintf("block %d", b))
		for _, p := range block.Phis {
			line := fmt.Sprintf("phi v%d", p.D)
			for _, a := range p.Arms {
				line += fmt.Sprintf(" %d:v%d", a.From, a.V)
			}
			lines = append(lines, line)
		}
		for _, x := range block.List {
			lines = append(lines, insShown(x))
		}
		lines = append(lines, termShown(block.Term))
	}
	return textOf(lines...)
}

// A deskReader reads what is shown: the parts of a line are what its name has.
type deskReader struct {
	t     *testing.T
	parts []string
}

// next is the next part of a line as a number, without what stands ahead of it.
func (r *deskReader) next(ahead string) int {
	if len(r.parts) == 0 {
		r.t.Fatal("a line has less than its name says")
	}
	part, ok := strings.CutPrefix(r.parts[0], ahead)
	x, err := strconv.Atoi(part)
	if !ok || err != nil {
		r.t.Errorf("%q is no number with %q ahead", r.parts[0], ahead)
	}
	r.parts = r.parts[1:]
	return x
}

func (r *deskReader) arms() []impl.Arm {
	list := []impl.Arm{}
	for _, part := range r.parts {
		from, v, _ := strings.Cut(part, ":")
		r.parts = []string{from, v}
		list = append(list, impl.Arm{From: r.next(""), V: r.next("v")})
	}
	r.parts = nil
	return list
}

func (r *deskReader) place(k placeKind) impl.Ins {
	x := impl.Ins{Op: k.num}
	for i, named := range []bool{k.d, k.a, k.b, k.n} {
		if named {
			*[]*int{&x.D, &x.A, &x.B, &x.N}[i] = r.next([]string{"v", "v", "v", ""}[i])
		}
	}
	return x
}

func (r *deskReader) end(k termKind) impl.Term {
	e := impl.Term{Kind: k.num}
	for i, named := range []bool{k.a, k.to, k.other} {
		if named {
			*[]*int{&e.A, &e.To, &e.Else}[i] = r.next([]string{"v", "", ""}[i])
		}
	}
	return e
}

var deskPlaceNames = strings.Fields("add sub mul and or xor less same left right const load store tell read copy")

var deskEndNames = strings.Fields("jump branch back")

// deskRead is the program that is shown, but for how many values there are, which no line tells.
func deskRead(t *testing.T, text string, values int) impl.Fn {
	t.Helper()
	f := impl.Fn{Values: values}
	for line := range strings.Lines(text) {
		parts := strings.Split(strings.TrimSuffix(line, "\n"), " ")
		r := &deskReader{t: t, parts: parts[1:]}
		if parts[0] == "block" {
			if n := r.next(""); n != len(f.Blocks) {
				t.Errorf("block %d is shown as block %d", len(f.Blocks), n)
			}
			f.Blocks = append(f.Blocks, impl.Block{})
			continue
		}
		if len(f.Blocks) == 0 {
			t.Fatalf("%q stands ahead of all blocks", line)
		}
		b := &f.Blocks[len(f.Blocks)-1]
		if b.Term.Kind != 0 || parts[0] == "phi" && len(b.List) > 0 {
			t.Errorf("%q stands too far behind", line)
		}
		if parts[0] == "phi" {
			b.Phis = append(b.Phis, impl.Phi{D: r.next("v"), Arms: r.arms()})
		} else if i := slices.Index(deskPlaceNames, parts[0]); i >= 0 {
			b.List = append(b.List, r.place(placeKinds[i]))
		} else if i := slices.Index(deskEndNames, parts[0]); i >= 0 {
			b.Term = r.end(termKinds[i])
		} else {
			t.Fatalf("%q begins with no name", line)
		}
		if len(r.parts) > 0 {
			t.Errorf("%q has more than its name says", line)
		}
	}
	return f
}

// deskPromise is promise 20 of a program of any kind: each line is as the words say, and from the lines alone it can be made again.
func deskPromise(t *testing.T, name string, f impl.Fn) bool {
	t.Helper()
	want := showModel(f)
	wantShow(t, name, f, want)
	if want == "" {
		return false
	}
	text := impl.Show(f)
	wantFn(t, name+": read from what is shown", deskRead(t, text, f.Values), f)
	lines := 0
	for _, b := range f.Blocks {
		lines += len(b.Phis) + len(b.List) + 2
	}
	if strings.Count(text, "\n") != lines || !strings.HasSuffix(text, "\n") || strings.Contains(text, "  ") || strings.Contains(text, " \n") || strings.Contains(text, "\n\n") || strings.Contains(text, "-0") {
		t.Errorf("%s: %d lines: %q", name, lines, text)
	}
	return true
}

// Limits: each one met exactly is shown, one of one more is not.
func TestShowLimits(t *testing.T) {
	for n := range 19 {
		if deskPromise(t, "blocks", fnOf(3, n)) != (n >= 1 && n <= 16) {
			t.Error("blocks", n)
		}
	}
	for n := -2; n <= 83; n++ {
		if deskPromise(t, "values", fnOf(n, 2)) != (n >= 0 && n <= 80) {
			t.Error("values", n)
		}
	}
	for n := range 28 {
		f := fnOf(3, 2, slices.Repeat([]impl.Ins{insAdd(1, 2, 0)}, n)...)
		if deskPromise(t, "places", f) != (n <= 24) {
			t.Error("places", n)
		}
		f = fnOf(3, 2)
		f.Blocks[1].Phis = slices.Repeat([]impl.Phi{phiOf(1, [2]int{1, 2})}, n)
		if deskPromise(t, "phis", f) != (n <= 24) {
			t.Error("phis", n)
		}
	}
	for blocks := 1; blocks <= 16; blocks++ {
		p := phiOf(1)
		for n := range 19 {
			if deskPromise(t, "arms", fnWithPhi(3, blocks, p)) != (n <= blocks) {
				t.Error("arms", n, blocks)
			}
			p.Arms = append(p.Arms, impl.Arm{From: n, V: 2})
		}
	}
}

// As great as a program can be, and a little greater.
func TestShowGreatest(t *testing.T) {
	great := packGreat()
	if !deskPromise(t, "as great as it can be", great) {
		t.Error("the greatest one")
	}
	phi := "phi v79"
	for b := range 16 {
		phi += " " + strconv.Itoa(15-b) + ":v" + strconv.Itoa(79-b)
	}
	want := ""
	for b := range 16 {
		want += "block " + strconv.Itoa(b) + "\n" + strings.Repeat(phi+"\n", 24) + strings.Repeat("const v79 -4611686018427387904\n", 24) + "branch v79 15 15\n"
	}
	wantShow(t, "as great as it can be", great, want)
	for _, more := range []func(f *impl.Fn){
		func(f *impl.Fn) { f.Blocks = append(f.Blocks, f.Blocks[0]) },
		func(f *impl.Fn) { f.Values++ },
		func(f *impl.Fn) { f.Blocks[15].Phis = append(f.Blocks[15].Phis, phiOf(0)) },
		func(f *impl.Fn) { f.Blocks[15].List = append(f.Blocks[15].List, insRead(0)) },
		func(f *impl.Fn) {
			f.Blocks[0].Phis[23].Arms = append(f.Blocks[0].Phis[23].Arms, impl.Arm{From: 3, V: 2})
		},
	} {
		f := fnCopy(great)
		more(&f)
		wantShow(t, "one more", f, "")
		wantReport(t, "one more", f, nil, 5, "shape")
	}
}

// N of a const is shown whatever it is, also where it could not be packed.
func TestShowNumbersOfAnySize(t *testing.T) {
	for _, x := range slices.Concat(packFar, wordSamples) {
		f := packSmall()
		addPlace(&f, 1, insConst(0, x))
		if !deskPromise(t, "N", f) {
			t.Error(x)
		}
	}
}

func TestShowNotShapeOk(t *testing.T) {
	list := packNoShape()
	for _, f := range list {
		wantShow(t, "not ShapeOk", f, "")
		wantReport(t, "not ShapeOk", f, []int{1, 2}, 100, "shape")
	}
	if len(list) < 1000 {
		t.Error(len(list))
	}
	for _, n := range fnFar {
		f := packSmall()
		f.Values = n
		wantShow(t, "values", f, "")
		wantReport(t, "values", f, nil, n, "shape")
	}
	for _, x := range []int{1, -1, 2, 63, math.MaxInt, math.MinInt} {
		for _, k := range placeKinds {
			for part, named := range []bool{k.d, k.a, k.b, k.n} {
				y := placeIns(k, 1, 2, 3, 4)
				*[]*int{&y.D, &y.A, &y.B, &y.N}[part] = x
				deskPromise(t, "a part", fnOf(10, 3, y))
				if !named {
					wantShow(t, "not named", fnOf(10, 3, y), "")
				}
			}
		}
		for _, k := range termKinds {
			for part, named := range []bool{k.a, k.to, k.other} {
				y := termOf(k, 1, 2, 0)
				*[]*int{&y.A, &y.To, &y.Else}[part] = x
				deskPromise(t, "a part", fnWithTerm(10, 3, y))
				if !named {
					wantShow(t, "not named", fnWithTerm(10, 3, y), "")
				}
			}
		}
	}
	wantShow(t, "none", impl.Fn{}, "")
	wantShow(t, "far too many blocks", impl.Fn{Blocks: make([]impl.Block, 1<<16)}, "")
}

// Each op and each kind from far below to far above.
func TestShowKinds(t *testing.T) {
	for x := -300; x <= 300; x++ {
		if deskPromise(t, "op", oneBlock(1, 0, impl.Ins{Op: x})) != (x >= 1 && x <= 10 || x >= 20 && x <= 25) {
			t.Error("op", x)
		}
		if deskPromise(t, "kind", progOf(1, blockOf(impl.Term{Kind: x}))) != (x >= 1 && x <= 3) {
			t.Error("kind", x)
		}
	}
	for _, x := range slices.Concat(fnOpsNone, fnKindsNone) {
		deskPromise(t, "op", oneBlock(1, 0, impl.Ins{Op: x}))
		deskPromise(t, "kind", progOf(1, blockOf(impl.Term{Kind: x})))
	}
}

// Programs of all kinds that there are: what has a shape is shown, whether it is well or not.
func TestShowAnyPrograms(t *testing.T) {
	var seen [2]int
	odd := 0
	for _, c := range plainAnyPrograms() {
		ok := deskPromise(t, c.name, c.f)
		if ok != impl.ShapeOk(c.f) {
			t.Errorf("%s: %t: %+v", c.name, ok, c.f)
		}
		seen[flag(ok)]++
		odd += flag(ok && checkModel(c.f) != impl.CkWell)
	}
	if seen[0] < 50 || seen[1] < 50 || odd < 50 {
		t.Error(seen, odd)
	}
}

func TestShowDrawnPrograms(t *testing.T) {
	d := &drawer{x: 2000}
	for range 600 {
		if !deskPromise(t, "drawn", packDrawn(d)) {
			t.Error("it is not shown")
		}
	}
	wellDrawn(201, 20, func(f impl.Fn) {
		if !deskPromise(t, "well", f) {
			t.Error("it is not shown")
		}
		for range 4 {
			g := fnCopy(f)
			checkChange(d, g)
			deskPromise(t, "changed", g)
		}
	})
}

// What is alike is shown alike, and but what no line tells apart is.
func TestShowAlike(t *testing.T) {
	d := &drawer{x: 202}
	for range 200 {
		f := packDrawn(d)
		text := impl.Show(f)
		wantShow(t, "alike", fnCopy(f), text)
		wantShow(t, "alike, with room", fnRoomy(f), text)
		wider := fnCopy(f)
		wider.Values = 80
		wantShow(t, "alike, with more values", wider, text)
		for b := range f.Blocks {
			g := fnCopy(f)
			g.Blocks[b].Term = termBranch(d.draw(f.Values), d.draw(len(f.Blocks)), d.draw(len(f.Blocks)))
			if same := impl.Show(g) == text; same != fnSame(f, g) {
				t.Errorf("shown alike: %t: %+v and %+v", same, f, g)
			}
		}
	}
	list := []impl.Fn{}
	for _, c := range deskCases() {
		list = append(list, c.f)
	}
	for i, f := range list {
		for j, g := range list {
			if same := impl.Show(f) == impl.Show(g); same != (i == j) {
				t.Errorf("shown alike: %t: %+v and %+v", same, f, g)
			}
		}
	}
}

// reportWell has programs that are well, with each way in which they can end.
func reportWell() []reportCase {
	echo, least := runEcho(), oneBlock(1, 0, insRead(0), insOut(0), insOut(0))
	cell := progOf(2, blockOf(termBack(0), insRead(0), insOut(0), insLoad(1, 0), insOut(1)))
	return []reportCase{
		{"an end that is 0, and nothing told", oneBlock(1, 0, insConst(0, 0)), nil, 2, "well done 0"},
		{"an end below 0, and nothing told", oneBlock(1, 0, insConst(0, -12)), nil, 100, "well done -12"},
		{"the greatest end", oneBlock(1, 0, insConst(0, math.MaxInt)), nil, 100, "well done 9223372036854775807"},
		{"the least end", oneBlock(1, 0, insConst(0, math.MinInt)), nil, 100, "well done -9223372036854775808"},
		{"one told, 0", oneBlock(2, 1, insRead(0), insConst(1, 10), insOut(0)), nil, 100, "well done 10 0"},
		{"one told, below 0", oneBlock(2, 1, insRead(0), insConst(1, 10), insOut(0)), []int{-1}, 100, "well done 10 -1"},
		{"a loop", checkLoop(), nil, 100, "well done 6 3 2 1"},
		{"a loop that reads nothing", checkLoop(), []int{7, 8}, 100, "well done 6 3 2 1"},
		{"a branch To", checkJoin(), []int{4}, 100, "well done 5"},
		{"a branch Else", checkJoin(), []int{0, 4}, 100, "well done 2 2"},
		{"nothing read", echo, nil, 100, "well done 9"},
		{"some read", echo, []int{3, -2, 80}, 100, "well done 9 3 -2 80"},
		{"less read than there is", echo, []int{3, 0, 80, 5}, 100, "well done 9 3"},
		{"the greatest and the least told", echo, []int{math.MaxInt, math.MinInt, math.MinInt + 1, 1 << 32}, 100, "well done 9 9223372036854775807 -9223372036854775808 -9223372036854775807 4294967296"},
		{"the least one twice", least, []int{math.MinInt}, 4, "well done -9223372036854775808 -9223372036854775808 -9223372036854775808"},
		{"just fuel enough", checkLoop(), nil, 21, "well done 6 3 2 1"},
		{"one more of fuel", checkLoop(), nil, 22, "well done 6 3 2 1"},
		{"one less of fuel", checkLoop(), nil, 20, "well fuel"},
		{"no fuel", checkLoop(), nil, 0, "well fuel"},
		{"the least that is well, just fuel enough", least, []int{5}, 4, "well done 5 5 5"},
		{"the least that is well, one less", least, []int{5}, 3, "well fuel"},
		{"fuel below 0", checkLoop(), nil, -1, "well bad"},
		{"the least fuel", checkLoop(), nil, math.MinInt, "well bad"},
		{"the greatest fuel", checkLoop(), nil, math.MaxInt, "well done 6 3 2 1"},
		{"the first cell", cell, []int{0}, 100, "well done 0 0 0"},
		{"the last cell", cell, []int{7}, 100, "well done 7 7 0"},
		{"a cell behind the last", cell, []int{8}, 100, "well cell"},
		{"a cell ahead of the first", cell, []int{-1}, 100, "well cell"},
		{"a cell that is none, just fuel enough", cell, []int{8}, 3, "well cell"},
		{"a cell that is none, one less of fuel", cell, []int{8}, 2, "well fuel"},
		{"a cell that is none, and fuel below 0", cell, []int{8}, -5, "well bad"},
		{"a store to a cell that is none", oneBlock(1, 0, insConst(0, 100), insOut(0), insStore(0, 0)), nil, 100, "well cell"},
		{"without end", runForever(), nil, math.MaxInt, "well fuel"},
	}
}

// reportOdd has each code of what is not well.
func reportOdd() []reportCase {
	return []reportCase{
		{"none", impl.Fn{}, nil, 5, "shape"},
		{"a value that there is not", oneBlock(0, 0), nil, 5, "shape"},
		{"a copy", oneBlock(2, 1, insRead(0), insCopy(1, 0)), nil, 5, "shape"},
		{"a block that is not reached", progOf(1, blockOf(termBack(0), insRead(0)), blockOf(termBack(0))), nil, 5, "dead"},
		{"a phi in block 0", progOf(2, withPhis(blockOf(termBack(1), insRead(1)), phiOf(0))), nil, 5, "entry"},
		{"a way back to block 0", progOf(0, blockOf(graphTo(0))), nil, 5, "entry"},
		{"a phi without an arm", progOf(2, blockOf(graphTo(1), insRead(0)), withPhis(blockOf(termBack(1)), phiOf(1))), nil, 5, "arms"},
		{"made twice", oneBlock(1, 0, insRead(0), insRead(0)), nil, 5, "twice"},
		{"nowhere made", oneBlock(1, 0), nil, 5, "taken"},
		{"nowhere made, without fuel", oneBlock(1, 0), nil, 0, "taken"},
		{"nowhere made, and fuel below 0", oneBlock(1, 0), nil, -1, "taken"},
		{"nowhere made, with much to read", oneBlock(1, 0), []int{1, 2, 3}, math.MaxInt, "taken"},
	}
}

func reportCases() []reportCase { return slices.Concat(reportWell(), reportOdd()) }

func TestReportByHand(t *testing.T) {
	lookReports(t, reportCases())
	for _, c := range reportCases() {
		if want := reportModel(c.f, c.reads, c.fuel); want != c.want {
			t.Errorf("%s: the model tells %q", c.name, want)
		}
	}
}

// reportModel is what is told of a program by the words of the document, by the models of Check and Run.
func reportModel(f impl.Fn, reads []int, fuel int) string {
	code := strings.Fields("well shape dead entry arms twice taken")[checkModel(f)]
	if code != "well" {
		return code
	}
	if fuel < 0 {
		return "well bad"
	}
	c := runModel(f, reads, min(fuel, 5000))
	if c.how != 0 {
		return "well " + []string{"", "fuel", "cell"}[c.how]
	}
	text := fmt.Sprint("well done ", c.end)
	for _, x := range c.told {
		text += fmt.Sprint(" ", x)
	}
	return text
}

// Each mistake alone, each two of them: the name of the first code is told, and nothing behind it, whatever the fuel.
func TestReportMistakes(t *testing.T) {
	var seen [7]int
	list := checkSpoils()
	for i := range list {
		for j := range list {
			f, names := checkSpoilt(), []string{"", "shape", "dead", "entry", "arms", "twice", "taken"}
			list[i].spoil(&f)
			if i != j {
				list[j].spoil(&f)
			}
			code := min(list[i].code, list[j].code)
			seen[code]++
			for _, fuel := range []int{-1, 0, 1, 100, math.MaxInt} {
				wantReport(t, list[i].name+", "+list[j].name, f, []int{4, 5}, fuel, names[code])
			}
		}
	}
	if slices.Index(seen[1:], 0) >= 0 {
		t.Error(seen)
	}
	for _, c := range checkCases() {
		want := reportModel(c.f, []int{1}, 50)
		wantReport(t, c.name, c.f, []int{1}, 50, want)
		if first, _, _ := strings.Cut(want, " "); first != impl.CheckName(c.want) {
			t.Errorf("%s: the model tells %q", c.name, want)
		}
	}
}

// With each fuel from 0 up to more than is needed.
func TestReportFuelByFuel(t *testing.T) {
	for _, c := range runCases() {
		if checkModel(c.f) != impl.CkWell {
			wantReport(t, c.name, c.f, c.reads, c.need, impl.CheckName(checkModel(c.f)))
			continue
		}
		for _, fuel := range slices.Concat(homeBelow(c.need), []int{c.need, c.need + 1, c.need + 2, 4999, 5000, 5001, 1 << 32, math.MaxInt, -1, -c.need, math.MinInt, math.MinInt + c.need}) {
			want := "well fuel"
			if fuel < 0 {
				want = "well bad"
			} else if fuel >= c.need {
				want = reportModel(c.f, c.reads, 1000)
			}
			wantReport(t, c.name, c.f, c.reads, fuel, want)
		}
		if c.how == impl.RnCell {
			wantReport(t, c.name, c.f, c.reads, c.need, "well cell")
		}
	}
}

// A limit that is met exactly is accepted, one that is passed by one is not: fuel above it is no more than it.
func TestReportMostFuel(t *testing.T) {
	for _, fuel := range []int{5000, 5001, 10000, math.MaxInt} {
		wantReport(t, "just enough", runCount(0), []int{1665}, fuel, "well done 1665")
		wantReport(t, "one more round", runCount(0), []int{1666}, fuel, "well fuel")
	}
	wantReport(t, "one less", runCount(0), []int{1665}, 4999, "well fuel")
}

func TestReportManyTold(t *testing.T) {
	reads, want := []int{}, "well done 9"
	for x := range 1248 {
		reads = append(reads, x*x*x*x*x*x*(1-x%3)-7)
		want += " " + strconv.Itoa(reads[x])
	}
	wantReport(t, "many told", runEcho(), reads, math.MaxInt, want)
	wantReport(t, "one too many told", runEcho(), append(reads, 1), math.MaxInt, "well fuel")
	wantReport(t, "just fuel enough", runEcho(), reads, 2+4*1248+3, want)
	wantReport(t, "one less of fuel", runEcho(), reads, 2+4*1248+2, "well fuel")
}

func TestReportDrawnPrograms(t *testing.T) {
	var seen [7]int
	var how [3]int
	runDrawn(203, 40, func(f impl.Fn, reads []int) {
		code := checkModel(f)
		seen[code]++
		for _, fuel := range []int{-1, 0, 7, 30, 300} {
			want := reportModel(f, reads, fuel)
			wantReport(t, "drawn", f, reads, fuel, want)
			if code == impl.CkWell && fuel >= 0 {
				how[slices.Index([]string{"done", "fuel", "cell"}, strings.Fields(want)[1])]++
			}
		}
	})
	if seen[0] < 100 || seen[2] == 0 || seen[5] < 20 || seen[6] < 20 || slices.Min(how[:]) < 30 {
		t.Error(seen, how)
	}
}

// What is told of a program is what the functions of the chapters ahead tell.
func TestReportTellsOfARun(t *testing.T) {
	for _, c := range plainAnyPrograms() {
		for _, fuel := range []int{-3, 0, 1, 5, 50, 5000} {
			words := []string{impl.CheckName(impl.Check(c.f))}
			told, how, end := impl.Run(c.f, c.reads, fuel)
			if words[0] == "well" {
				words = append(words, impl.RunName(how))
			}
			if words[0] == "well" && how == impl.RnDone {
				for _, x := range append([]int{end}, told...) {
					words = append(words, fmt.Sprint(x))
				}
			}
			wantReport(t, c.name, c.f, c.reads, fuel, strings.Join(words, " "))
			wantReport(t, c.name, c.f, slices.Concat(c.reads, []int{0}), fuel, strings.Join(words, " "))
		}
	}
}

// Promise 21: neither a program, nor what there is to read, nor the spare room behind them are written into, and none of it counts.
func TestDeskWritesIntoNothing(t *testing.T) {
	for _, c := range plainAnyPrograms() {
		f := fnRoomy(c.f)
		reads := append(slices.Clone(c.reads), 77, 78)[:len(c.reads)]
		before, room := fnCopy(fnWhole(f)), slices.Clone(reads[:cap(reads)])
		wantShow(t, c.name+" with room", f, showModel(c.f))
		wantReport(t, c.name+" with room", f, reads, 60, reportModel(c.f, c.reads, 60))
		if !reflect.DeepEqual(fnWhole(f), before) || !slices.Equal(reads[:cap(reads)], room) {
			t.Errorf("%s: an argument was written into", c.name)
		}
	}
}

// A text that was answered does not hang on what becomes of the arguments.
func TestDeskAnswersAreNew(t *testing.T) {
	for _, c := range append(deskCases(), deskCase{name: "the greatest", f: packGreat()}) {
		f, want := fnCopy(c.f), showModel(c.f)
		text := impl.Show(f)
		plainScribble(f)
		if text != want {
			t.Errorf("%s: the text hangs on what became of the program", c.name)
		}
	}
	for _, c := range reportCases() {
		f, reads := fnCopy(c.f), slices.Clone(c.reads)
		text := impl.Report(f, reads, c.fuel)
		plainScribble(f)
		fnScribble(reads)
		if text != c.want {
			t.Errorf("%s: the text hangs on what became of the program", c.name)
		}
	}
}

// What is answered hangs on the arguments alone, whatever was asked ahead.
func TestDeskSameEachTime(t *testing.T) {
	great := packGreat()
	want := showModel(great)
	for range 20 {
		lookShows(t, deskCases())
		lookReports(t, reportCases())
		wantShow(t, "none", impl.Fn{}, "")
		wantShow(t, "the greatest", great, want)
		deskNames(t)
	}
}
