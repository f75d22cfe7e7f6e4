package tests

import (
	"bytes"
	"fmt"
	"go/ast"
	"go/parser"
	"go/token"
	"math"
	"path/filepath"
	"reflect"
	"runtime"
	"slices"
	"strings"
	"sync"
	"testing"

	"loop.example/g00192/impl"
)

// An everyCall is a function of the program, what it answers where each argument is its zero value, and where each is as far
// as can be from what its chapter wants (everyFar).
type everyCall struct {
	fn   any
	none []any
	far  []any
}

func answers(list ...any) []any { return list }

// everyWords are the functions of chapters 1 to 6.
func everyWords() []everyCall {
	return []everyCall{
		{impl.WordOk, answers(false), answers(false)},
		{impl.Word, answers(0), answers(0)},
		{impl.WordName, answers(""), answers("")},
		{impl.WordOf, answers(0), answers(0)},
		{impl.InsDef, answers(-1), answers(-1)},
		{impl.InsUses, answers([]int{}), answers([]int{})},
		{impl.TermUses, answers([]int{}), answers([]int{})},
		{impl.ShapeOk, answers(false), answers(false)},
		{impl.Succs, answers([]int{}), answers([]int{})},
		{impl.Preds, answers([]int{}), answers([]int{})},
		{impl.Reached, answers([]bool{}), answers([]bool{})},
		{impl.Order, answers([]int{}), answers([]int{})},
		{impl.Doms, answers([][]int{}), answers([][]int{})},
		{impl.Dominates, answers(false), answers(false)},
		{impl.Above, answers(-1), answers(-1)},
		{impl.DefAt, answers(-1, -2), answers(-1, -2)},
		{impl.Check, answers(impl.CkShape), answers(impl.CkShape)},
		{impl.Run, answers([]int{}, impl.RnBad, 0), answers([]int{}, impl.RnBad, 0)},
		{impl.Path, answers([]int{}), answers([]int{})},
	}
}

// everyPass are the functions of chapters 7 to 13.
func everyPass() []everyCall {
	none := impl.Fn{}
	return []everyCall{
		{impl.Fold, answers(none), answers(everyFarFn())},
		{impl.Used, answers([]bool{}), answers([]bool{})},
		{impl.Prune, answers(none), answers(everyFarFn())},
		{impl.Cost, answers(-1), answers(-1)},
		{impl.Critical, answers([]impl.Edge{}), answers([]impl.Edge{})},
		{impl.Split, answers(none, false), answers(everyFarFn(), false)},
		{impl.MovesOk, answers(true), answers(false)},
		{impl.MovesDo, answers([]int{}), answers([]int{math.MinInt, math.MaxInt})},
		{impl.MovesEach, answers([]int{}), answers([]int{math.MinInt, math.MaxInt})},
		{impl.Sequence, answers([]impl.Move{}, true), answers([]impl.Move{}, false)},
		{impl.PlainOk, answers(false), answers(false)},
		{impl.Lower, answers(none, false), answers(none, false)},
		{impl.Targets, answers([]int{}), answers([]int{})},
		{impl.LiveIn, answers([][]int{}), answers([][]int{})},
		{impl.LiveOut, answers([][]int{}), answers([][]int{})},
		{impl.LiveAt, answers([]int{}), answers([]int{})},
		{impl.Busy, answers(-1), answers(-1)},
		{impl.Clashes, answers([][]bool{}), answers([][]bool{})},
		{impl.Clash, answers(false), answers(false)},
		{impl.Degree, answers(-1), answers(-1)},
		{impl.HomesOk, answers(false), answers(false)},
		{impl.Guess, answers([]int{}), answers([]int{})},
		{impl.Renamed, answers(none, false), answers(none, false)},
		{impl.SlotsOf, answers(0), answers(0)},
	}
}

// everyCode are the functions of chapters 14 to 20.
func everyCode() []everyCall {
	steps := []impl.Step{}
	return []everyCall{
		{impl.StepOk, answers(false), answers(false)},
		{impl.MachineOk, answers(false), answers(false)},
		{impl.RunMachine, answers([]int{}, impl.RnBad, 0), answers([]int{}, impl.RnBad, 0)},
		{impl.Uses, answers([]int{}), answers([]int{})},
		{impl.EmitIns, answers(steps), answers(steps)},
		{impl.Emit, answers(steps, false), answers(steps, false)},
		{impl.Idle, answers(false), answers(false)},
		{impl.Trim, answers(steps), answers([]impl.Step{everyFarStep()})},
		{impl.Trimmed, answers(0), answers(0)},
		{impl.StepText, answers(""), answers("")},
		{impl.Print, answers(""), answers("")},
		{impl.Parse, answers(steps, false), answers(steps, false)},
		{impl.Compile, answers("", impl.CmCheck), answers("", impl.CmCheck)},
		{impl.RunText, answers([]int{}, impl.RnBad, 0), answers([]int{}, impl.RnBad, 0)},
		{impl.Ratio, answers(0, 0), answers(0, 0)},
		{impl.PackNum, answers([]byte{0}), answers([]byte{})},
		{impl.UnpackNum, answers(0, 0, false), answers(0, 0, false)},
		{impl.PackFn, answers([]byte{}, false), answers([]byte{}, false)},
		{impl.UnpackFn, answers(impl.Fn{}, false), answers(impl.Fn{}, false)},
		{impl.CheckName, answers("well"), answers("")},
		{impl.RunName, answers("done"), answers("")},
		{impl.Show, answers(""), answers("")},
		{impl.Report, answers("shape"), answers("shape")},
	}
}

func everyFunction() []everyCall { return slices.Concat(everyWords(), everyPass(), everyCode()) }

// name is that of the function, without its package.
func (c everyCall) name() string {
	whole := runtime.FuncForPC(reflect.ValueOf(c.fn).Pointer()).Name()
	return whole[strings.LastIndex(whole, ".")+1:]
}

func everyFarStep() impl.Step {
	return impl.Step{Op: math.MinInt, R: math.MaxInt, A: math.MinInt, B: -1, N: math.MaxInt}
}

func everyFarIns() impl.Ins {
	return impl.Ins{Op: math.MaxInt, D: math.MinInt, A: math.MaxInt, B: math.MinInt, N: math.MinInt}
}

func everyFarTerm() impl.Term {
	return impl.Term{Kind: math.MinInt, A: math.MaxInt, To: math.MinInt, Else: math.MaxInt}
}

func everyFarFn() impl.Fn {
	return impl.Fn{Values: math.MinInt, Blocks: []impl.Block{{
		Phis: []impl.Phi{{D: math.MaxInt, Arms: []impl.Arm{{From: math.MinInt, V: math.MaxInt}}}},
		List: []impl.Ins{everyFarIns()},
		Term: everyFarTerm()}}}
}

// everyFar are the arguments that are as far as can be from what a chapter wants, by their types.
func everyFar() []any {
	return []any{math.MinInt, "\xff\x00 ", everyFarIns(), everyFarTerm(), everyFarStep(), everyFarFn(),
		[]int{math.MinInt, math.MaxInt}, []impl.Move{{D: math.MinInt, S: math.MaxInt}}, []impl.Step{everyFarStep()}, bytes.Repeat([]byte{255}, 12)}
}

// The list above has every function that the program has for others, in the order of its files.
func TestEveryFunctionIsLookedAt(t *testing.T) {
	files, err := filepath.Glob("../impl/*.go")
	if err != nil || len(files) != 20 {
		t.Fatal(files, err)
	}
	there := []string{}
	for _, name := range files {
		file, err := parser.ParseFile(token.NewFileSet(), name, nil, 0)
		if err != nil {
			t.Fatal(err)
		}
		for _, d := range file.Decls {
			if f, ok := d.(*ast.FuncDecl); ok && f.Name.IsExported() && f.Recv == nil {
				there = append(there, f.Name.Name)
			}
		}
	}
	looked := []string{}
	for _, c := range everyFunction() {
		looked = append(looked, c.name())
	}
	if !slices.Equal(there, looked) {
		t.Errorf("there are %v, and looked at %v", there, looked)
	}
}

// everySame holds two values against each other; an empty list and nil are the same.
func everySame(a, b reflect.Value) bool {
	switch a.Kind() {
	case reflect.Slice:
		if a.Len() != b.Len() {
			return false
		}
		for i := range a.Len() {
			if !everySame(a.Index(i), b.Index(i)) {
				return false
			}
		}
		return true
	case reflect.Struct:
		for i := range a.NumField() {
			if !everySame(a.Field(i), b.Field(i)) {
				return false
			}
		}
		return true
	}
	return a.Equal(b)
}

func everyAllSame(a, b []reflect.Value) bool {
	return slices.EqualFunc(a, b, func(x, y reflect.Value) bool { return x.Type() == y.Type() && everySame(x, y) })
}

// everyFill writes over each number, flag and text, and over all the room behind each list.
func everyFill(v reflect.Value) {
	switch v.Kind() {
	case reflect.Slice:
		if v.Cap() > v.Len() {
			v = v.Slice3(0, v.Cap(), v.Cap())
		}
		for i := range v.Len() {
			everyFill(v.Index(i))
		}
	case reflect.Struct:
		for i := range v.NumField() {
			everyFill(v.Field(i))
		}
	case reflect.Int:
		v.SetInt(1)
	case reflect.Uint8:
		v.SetUint(129)
	case reflect.Bool:
		v.SetBool(true)
	}
}

// everyCopy has nothing in common with what it is of; behind each list there is so much room more, with something in it.
func everyCopy(v reflect.Value, room int) reflect.Value {
	made := reflect.New(v.Type()).Elem()
	switch v.Kind() {
	case reflect.Slice:
		list := reflect.MakeSlice(v.Type(), v.Len()+room, v.Len()+room)
		everyFill(list)
		for i := range v.Len() {
			list.Index(i).Set(everyCopy(v.Index(i), room))
		}
		made.Set(list.Slice(0, v.Len()))
	case reflect.Struct:
		for i := range v.NumField() {
			made.Field(i).Set(everyCopy(v.Field(i), room))
		}
	default:
		made.Set(v)
	}
	return made
}

func everyCopies(list []reflect.Value, room int) []reflect.Value {
	made := []reflect.Value{}
	for _, v := range list {
		made = append(made, everyCopy(v, room))
	}
	return made
}

// everyWhole is a copy in which the room behind each list is part of it.
func everyWhole(v reflect.Value) reflect.Value {
	made := reflect.New(v.Type()).Elem()
	switch v.Kind() {
	case reflect.Slice:
		whole := v.Slice(0, v.Cap())
		list := reflect.MakeSlice(v.Type(), whole.Len(), whole.Len())
		for i := range whole.Len() {
			list.Index(i).Set(everyWhole(whole.Index(i)))
		}
		made.Set(list)
	case reflect.Struct:
		for i := range v.NumField() {
			made.Field(i).Set(everyWhole(v.Field(i)))
		}
	default:
		made.Set(v)
	}
	return made
}

// everyAsItWas holds a value with the room behind its lists against what everyWhole of it was.
func everyAsItWas(v, whole reflect.Value) bool {
	switch v.Kind() {
	case reflect.Slice:
		if v.Cap() != whole.Len() {
			return false
		}
		v = v.Slice(0, v.Cap())
		for i := range v.Len() {
			if !everyAsItWas(v.Index(i), whole.Index(i)) {
				return false
			}
		}
		return true
	case reflect.Struct:
		for i := range v.NumField() {
			if !everyAsItWas(v.Field(i), whole.Field(i)) {
				return false
			}
		}
		return true
	}
	return v.Equal(whole)
}

func everyWholes(list []reflect.Value) []reflect.Value {
	made := []reflect.Value{}
	for _, v := range list {
		made = append(made, everyWhole(v))
	}
	return made
}

// everyRooms are the memory of all lists of a value, with the room behind each.
func everyRooms(v reflect.Value) [][2]uintptr {
	rooms := [][2]uintptr{}
	switch v.Kind() {
	case reflect.Slice:
		if size := uintptr(v.Cap()) * v.Type().Elem().Size(); size > 0 {
			rooms = append(rooms, [2]uintptr{v.Pointer(), v.Pointer() + size})
		}
		for i := range v.Len() {
			rooms = append(rooms, everyRooms(v.Index(i))...)
		}
	case reflect.Struct:
		for i := range v.NumField() {
			rooms = append(rooms, everyRooms(v.Field(i))...)
		}
	}
	return rooms
}

// everyApart tells whether no list of the answers shares memory with another one of them, nor with an argument.
func everyApart(args, answers []reflect.Value) bool {
	type room struct {
		begins, ends uintptr
		mine         bool
	}
	rooms := []room{}
	for i, list := range [][]reflect.Value{args, answers} {
		for _, v := range list {
			for _, r := range everyRooms(v) {
				rooms = append(rooms, room{r[0], r[1], i == 1})
			}
		}
	}
	slices.SortFunc(rooms, func(a, b room) int {
		if a.begins < b.begins {
			return -1
		}
		return flag(a.begins > b.begins)
	})
	// how far the lists go that were gone through, those of the arguments and those of the answers: arguments may share among themselves
	var theirs, mine uintptr
	for _, r := range rooms {
		if r.begins < mine || r.mine && r.begins < theirs {
			return false
		}
		if r.mine {
			mine = max(mine, r.ends)
		} else {
			theirs = max(theirs, r.ends)
		}
	}
	return true
}

// called is what a call answers; that it answers at all is part of promise 21.
func (c everyCall) called(t *testing.T, args []reflect.Value) []reflect.Value {
	t.Helper()
	defer func() {
		if wrong := recover(); wrong != nil {
			t.Errorf("%s panics: %v: %s", c.name(), wrong, everyText(args))
		}
	}()
	return reflect.ValueOf(c.fn).Call(args)
}

func everyText(list []reflect.Value) string {
	text := ""
	for _, v := range list {
		text += fmt.Sprintf("%+v, ", v)
	}
	return text[:min(len(text), 600)]
}

// look is promise 21 of one call.
func (c everyCall) look(t *testing.T, args []reflect.Value) []reflect.Value {
	t.Helper()
	want := c.called(t, args)
	if !everyApart(args, want) {
		t.Errorf("%s: an answer shares memory: %s", c.name(), everyText(args))
	}
	roomy := everyCopies(args, 3)
	before := everyWholes(roomy)
	got := c.called(t, roomy)
	if !everyAllSame(got, want) {
		t.Errorf("%s answers %s, and with room behind its arguments %s: %s", c.name(), everyText(want), everyText(got), everyText(args))
	}
	if !slices.EqualFunc(roomy, before, everyAsItWas) {
		t.Errorf("%s: an argument was written into: %s", c.name(), everyText(args))
	}
	if !everyApart(roomy, got) {
		t.Errorf("%s: an answer shares memory: %s", c.name(), everyText(args))
	}
	kept := everyCopies(got, 0)
	again := c.called(t, roomy)
	for _, v := range again {
		everyOver(v)
	}
	if !everyAllSame(got, kept) || !slices.EqualFunc(roomy, before, everyAsItWas) {
		t.Errorf("%s: an answer hangs on another one: %s", c.name(), everyText(args))
	}
	if last := c.called(t, args); !everyAllSame(last, kept) {
		t.Errorf("%s answers %s, and before that %s: %s", c.name(), everyText(last), everyText(kept), everyText(args))
	}
	return kept
}

// everyOver writes over the lists of an answer; what stands in no list is nobody else's anyway.
func everyOver(v reflect.Value) {
	switch v.Kind() {
	case reflect.Slice:
		everyFill(v)
	case reflect.Struct:
		for i := range v.NumField() {
			everyOver(v.Field(i))
		}
	}
}

func (c everyCall) wants(t *testing.T, args []reflect.Value, want []any) {
	t.Helper()
	list := []reflect.Value{}
	for _, x := range want {
		list = append(list, reflect.ValueOf(x))
	}
	if got := c.look(t, args); !everyAllSame(got, list) {
		t.Errorf("%s answers %s, not %s: %s", c.name(), everyText(got), everyText(list), everyText(args))
	}
}

func TestEveryFunctionAtNothing(t *testing.T) {
	for _, c := range everyFunction() {
		args := []reflect.Value{}
		for i := range reflect.TypeOf(c.fn).NumIn() {
			args = append(args, reflect.Zero(reflect.TypeOf(c.fn).In(i)))
		}
		c.wants(t, args, c.none)
		for i, v := range args {
			if v.Kind() == reflect.Slice {
				args[i] = reflect.MakeSlice(v.Type(), 0, 0)
			}
		}
		c.wants(t, args, c.none)
	}
}

func TestEveryFunctionFarOut(t *testing.T) {
	for _, c := range everyFunction() {
		args := []reflect.Value{}
		for i := range reflect.TypeOf(c.fn).NumIn() {
			at := slices.IndexFunc(everyFar(), func(x any) bool { return reflect.TypeOf(x) == reflect.TypeOf(c.fn).In(i) })
			args = append(args, reflect.ValueOf(everyFar()[at]))
		}
		c.wants(t, args, c.far)
	}
}

// What is right stands beside what is not: each function with one argument that its chapter does not want.
func TestEveryFunctionWithOneWrong(t *testing.T) {
	f, homes := checkLoop(), homeKinds()
	code, none, moves := machineEcho(), []int{}, movesOf([2]int{0, 1}, [2]int{1, 0})
	for _, x := range []int{-1, -2, math.MinInt, 1 << 32, math.MaxInt} {
		below := x < 0
		how := map[bool]int{true: impl.RnBad, false: impl.RnDone}[below]
		end := map[bool]int{true: 0, false: 6}[below]
		for _, c := range []struct {
			fn   any
			args []any
			want []any
		}{
			{impl.WordOk, answers(x), answers(false)},
			{impl.Word, answers(x, 2, 3), answers(0)},
			{impl.WordName, answers(x), answers("")},
			{impl.Succs, answers(f, x), answers(none)},
			{impl.Preds, answers(f, x), answers(none)},
			{impl.Dominates, answers(f, x, 1), answers(false)},
			{impl.Dominates, answers(f, 1, x), answers(false)},
			{impl.Above, answers(f, x), answers(-1)},
			{impl.DefAt, answers(f, x), answers(-1, -2)},
			{impl.Run, answers(checkStraight(), []int{-13}, x), answers(map[bool][]int{true: none, false: {-6}}[below], how, map[bool]int{true: 0, false: 1}[below])},
			{impl.Path, answers(checkStraight(), none, x), answers(map[bool][]int{true: none, false: {0, 1, 2}}[below])},
			{impl.MovesOk, answers(moves, x), answers(!below)},
			{impl.MovesOk, answers(movesOf([2]int{0, x}), 2), answers(false)},
			{impl.MovesOk, answers(movesOf([2]int{x, 0}), 2), answers(false)},
			{impl.MovesDo, answers(movesOf([2]int{0, 1}, [2]int{1, x}), []int{5, 6}), answers([]int{5, 6})},
			{impl.MovesEach, answers(movesOf([2]int{0, 1}, [2]int{1, x}, [2]int{x, 1}), []int{5, 6}), answers([]int{6, 6})},
			{impl.Sequence, answers(movesOf([2]int{0, 1}, [2]int{1, x}), 2), answers([]impl.Move{}, false)},
			{impl.LiveAt, answers(homes, x, 0), answers(none)},
			{impl.LiveAt, answers(homes, 0, x), answers(none)},
			{impl.Clash, answers(homes, x, 0), answers(false)},
			{impl.Clash, answers(homes, 0, x), answers(false)},
			{impl.Degree, answers(homes, x), answers(-1)},
			{impl.HomesOk, answers(homes, []int{0, 1, 2, x}), answers(false)},
			{impl.HomesOk, answers(homes, []int{0, 1, 2}), answers(false)},
			{impl.Renamed, answers(homes, []int{0, 1, 2, x}), answers(impl.Fn{}, false)},
			{impl.SlotsOf, answers([]int{0, 39, x}), answers(0)},
			{impl.StepOk, answers(maJump(0), x), answers(!below)},
			{impl.StepOk, answers(maJump(x), 5), answers(false)},
			{impl.StepOk, answers(maOut(x), 5), answers(false)},
			{impl.MachineOk, answers(codeOf(maJump(0), maPut(x, 0))), answers(false)},
			{impl.RunMachine, answers(code, []int{6}, x), answers(map[bool][]int{true: none, false: {6}}[below], how, end)},
			{impl.EmitIns, answers(insOut(x)), answers([]impl.Step{})},
			{impl.Idle, answers(maJump(3), x), answers(false)},
			{impl.Idle, answers(maMove(x, x), 0), answers(false)},
			{impl.StepText, answers(maRead(x)), answers("")},
			{impl.Print, answers(codeOf(maEnd(x))), answers("")},
			{impl.RunText, answers("end r0\n", none, x), answers(none, how, 0)},
			{impl.RunText, answers(fmt.Sprintf("jump %d\n", x), none, 5), answers(none, impl.RnBad, 0)},
			{impl.UnpackNum, answers([]byte{5, 6}, x), answers(0, 0, false)},
			{impl.PackFn, answers(oneBlock(1, 0, insConst(0, 5), insOut(x))), answers([]byte{}, false)},
			{impl.CheckName, answers(x), answers("")},
			{impl.RunName, answers(x), answers("")},
			{impl.Report, answers(f, none, x), answers(map[bool]string{true: "well bad", false: "well done 6 3 2 1"}[below])},
		} {
			args := []reflect.Value{}
			for _, a := range c.args {
				args = append(args, reflect.ValueOf(a))
			}
			everyCall{fn: c.fn}.wants(t, args, c.want)
		}
	}
}

// everyShared has lists that share memory with each other.
func everyShared() impl.Fn {
	arms := []impl.Arm{{From: 0, V: 0}, {From: 1, V: 1}, {From: 2, V: 0}}
	list := []impl.Ins{insRead(2), insOut(0), insOut(0)}
	return progOf(5,
		impl.Block{List: []impl.Ins{insRead(0), insRead(1)}, Term: termBranch(0, 1, 2)},
		impl.Block{List: list[1:], Term: graphTo(3)},
		impl.Block{List: list, Term: graphTo(3)},
		impl.Block{Phis: []impl.Phi{{D: 3, Arms: arms[1:]}, {D: 4, Arms: arms[1:]}}, List: list[2:], Term: termBack(3)})
}

func everyPrograms() []impl.Fn {
	split, _ := impl.Split(checkNest())
	lowered, _ := impl.Lower(checkLoop())
	named, _ := impl.Renamed(homeKinds(), impl.Guess(homeKinds()))
	list := []impl.Fn{{}, {Values: -1}, {Values: 80}, {Values: math.MaxInt, Blocks: make([]impl.Block, 2)}, everyFarFn(), everyShared(),
		checkStraight(), checkJoin(), checkLoop(), checkNest(), runFib(), runSwap(), runCells(), runEcho(), runForever(), split, lowered, named, homeKinds(), fnFull(), packSmall(), packGreat(),
		homeClique(9), homeClique(impl.MaxHomes), homeClique(impl.MaxHomes + 1), edgeComb(1, 7, 1), plainFull(10, 14), plainFull(10, 15), compileLong(900), compileLong(901),
		progOf(0, blockOf(graphTo(0))), progOf(1, blockOf(termBack(0))), oneBlock(80, 79, insConst(79, math.MinInt)), oneBlock(81, 80, insConst(80, math.MinInt)),
		fnOf(3, 16), fnOf(3, 17), fnOf(3, 300), fnOf(3, 2, slices.Repeat([]impl.Ins{insAdd(1, 2, 0)}, 25)...), fnOf(3, 2, make([]impl.Ins, 300)...),
		fnWithPhi(3, 16, impl.Phi{D: 1, Arms: make([]impl.Arm, 17)}), fnWithPhi(3, 16, impl.Phi{D: 1, Arms: make([]impl.Arm, 300)})}
	for _, c := range checkSpoils() {
		f := checkSpoilt()
		c.spoil(&f)
		list = append(list, f)
	}
	many := checkLoop()
	many.Blocks[1].Phis = slices.Repeat(many.Blocks[1].Phis, 40)
	return append(list, many)
}

func everyCodes() [][]impl.Step {
	list := [][]impl.Step{nil, {{}}, {everyFarStep()}, {everyFarStep(), maEnd(0)}, machineEcho(), machineFact(), machineNest(), machineChoice(), machineLong(900), machineLong(901), emitAll(),
		codeOf(maEnd(7)), codeOf(maEnd(8)), codeOf(maJump(0)), codeOf(maJump(1)), codeOf(maJump(-1)), codeOf(maOut(0)), codeOf(maMove(1, 1), maJump(2), maZero(3, 3), maEnd(0)),
		codeOf(maSet(0, 9), maLoad(0, 0), maEnd(0)), codeOf(maPut(40, 0), maEnd(0)), codeOf(maPut(39, 0), maEnd(0)), make([]impl.Step, 5000), slices.Repeat(codeOf(maEnd(0)), 5000)}
	return list
}

func everyMoves() [][]impl.Move {
	ring := []impl.Move{}
	for i := range 25 {
		ring = append(ring, impl.Move{D: i, S: (i + 1) % 24})
	}
	return [][]impl.Move{nil, {{}}, {{D: 0, S: 1}, {D: 1, S: 0}}, ring[:24], ring, ring[3:20], {{D: 1, S: 2}, {D: 1, S: 3}}, {{D: 2, S: 2}, {D: 0, S: 2}, {D: 3, S: 0}},
		{{D: math.MinInt, S: math.MaxInt}}, {{D: 0, S: 1}, {D: -1, S: 0}}, {{D: 39, S: 79}, {D: 80, S: 3}}, make([]impl.Move, 300)}
}

func everyNumbers() [][]int {
	return [][]int{nil, {0}, {1}, {5, -3, 0, 8}, {0, 1, 0, 0}, {0, 1, 2, 3}, {0, 1, 2, 3, 4, 5, 6}, {math.MinInt, math.MaxInt}, {-1, 0, 40}, {39, 39}, homeBelow(40), homeBelow(80), make([]int, 80), make([]int, 81), slices.Repeat([]int{7}, 5000),
		impl.Guess(homeKinds()), impl.Guess(homeClique(impl.MaxHomes))}
}

func everyBytes() [][]byte {
	small, _ := impl.PackFn(packSmall())
	great, _ := impl.PackFn(packGreat())
	return [][]byte{nil, {0}, {128}, {128, 0}, {5, 172, 2}, small, small[:len(small)-1], append(slices.Clone(small), 0), great, great[1:], bytes.Repeat([]byte{255}, 12), bytes.Repeat([]byte{2}, 12),
		make([]byte, 5000), bytes.Repeat([]byte{255}, 5000), []byte("end r0\n"), {0, 2, 0, 0, 2, 0, 0, 0}, {0, 2, 255, 255, 255, 255, 255, 255, 255, 255, 127}}
}

func everyTexts() []string {
	return []string{"", " ", "\n", "\x00", "\xff\xfe\n", "add", "right", "Add", "add ", "well", "end r0\n", "end r0", "end r8\n", "end r0\r\n", "set r0 05\nend r0\n", "set r0 99999999999999999999\nend r0\n", "jump -1\n", "jump 0\n",
		impl.Print(machineEcho()), impl.Print(machineLong(900)), impl.Print(machineFact()) + "\n", impl.Show(packSmall()), strings.Repeat("end r0\n", 901), strings.Repeat(" ", 5000), strings.Repeat("\xf0\x9f\x99", 900)}
}

func everyPlaces() []impl.Ins {
	list := []impl.Ins{{}, everyFarIns(), insAdd(-1, 0, 0), insAdd(0, 40, 0), insCopy(39, 39), insCopy(40, 0), insConst(0, math.MinInt), {Op: impl.InOut, A: 1, B: 1}}
	for _, op := range fnOpsNone {
		list = append(list, impl.Ins{Op: op, D: 1, A: 2, B: 3, N: 4})
	}
	for _, k := range placeKinds {
		list = append(list, placeIns(k, 5, 0, 39, 7), impl.Ins{Op: k.num, D: math.MaxInt, A: math.MinInt, B: -1, N: math.MaxInt})
	}
	return list
}

func everyEnds() []impl.Term {
	list := []impl.Term{{}, everyFarTerm()}
	for _, kind := range append([]int{1, 2, 3}, fnKindsNone...) {
		list = append(list, impl.Term{Kind: kind, A: 1, To: 2, Else: 3}, impl.Term{Kind: kind, A: math.MinInt, To: math.MaxInt, Else: -1})
	}
	return list
}

func everySteps() []impl.Step {
	list := []impl.Step{{}, everyFarStep(), maMove(7, 7), maMove(8, 8), maJump(1), maZero(0, 1), maJump(math.MinInt), maSet(0, math.MinInt), maPut(39, 0), maPut(40, 0)}
	for op := -1; op < 25; op++ {
		list = append(list, impl.Step{Op: op}, impl.Step{Op: op, R: 1, A: 2, B: 3, N: 4}, impl.Step{Op: op, R: 8, A: -1, B: math.MaxInt, N: math.MinInt})
	}
	return list
}

var everyInts = []int{0, 1, 2, 3, 4, 5, 7, 8, 10, 11, 16, 17, 20, 25, 39, 40, 41, 79, 80, 81, 100, 899, 900, 901, 4999, 5000, 5001, 40000, 40001, 1 << 31, 1 << 32, packEnd - 1, packEnd,
	math.MaxInt, math.MaxInt - 1, -1, -2, -16, -100, -1 << 32, -packEnd, -packEnd - 1, math.MinInt, math.MinInt + 1}

func everyList[T any](list []T) []reflect.Value {
	values := []reflect.Value{}
	for _, x := range list {
		values = append(values, reflect.ValueOf(x))
	}
	return values
}

// everyPools are arguments of all kinds, by their types: right ones, ones at the limits, and ones far beyond.
func everyPools() map[reflect.Type][]reflect.Value {
	pools := map[reflect.Type][]reflect.Value{}
	for _, list := range [][]reflect.Value{everyList(everyInts), everyList(everyTexts()), everyList(everyPrograms()), everyList(everyPlaces()), everyList(everyEnds()), everyList(everySteps()),
		everyList(everyNumbers()), everyList(everyMoves()), everyList(everyCodes()), everyList(everyBytes())} {
		pools[list[0].Type()] = list
	}
	return pools
}

// everyArgs are so many lists of arguments at most: all that there are, or drawn ones.
func everyArgs(c everyCall, pools map[reflect.Type][]reflect.Value, most int) [][]reflect.Value {
	kind, all := reflect.TypeOf(c.fn), 1
	for i := range kind.NumIn() {
		all *= len(pools[kind.In(i)])
	}
	d := &drawer{x: uint64(len(c.name()))}
	lists := [][]reflect.Value{}
	for row := range min(all, most) {
		args := []reflect.Value{}
		for i := range kind.NumIn() {
			pool := pools[kind.In(i)]
			at := row % len(pool)
			if all > most {
				at = d.draw(len(pool))
			}
			row /= len(pool)
			args = append(args, pool[at])
		}
		lists = append(lists, args)
	}
	return lists
}

// Promise 21: every function answers at any arguments, and writes into none; no answer shares memory; and each is the same each time.
func TestEveryFunctionAtAnyArguments(t *testing.T) {
	before, pools := runtime.NumGoroutine(), everyPools()
	for _, c := range everyFunction() {
		for _, args := range everyArgs(c, pools, 1200) {
			c.look(t, args)
		}
	}
	nobodyLeft(t, before)
}

// What was given is as it was in the end, too, also where lists of arguments share memory.
func TestEveryFunctionLeavesWhatWasGiven(t *testing.T) {
	pools := everyPools()
	before := map[reflect.Type][]reflect.Value{}
	for kind, list := range pools {
		before[kind] = everyWholes(list)
	}
	for _, c := range everyFunction() {
		for _, args := range everyArgs(c, pools, 400) {
			c.called(t, args)
		}
	}
	for kind, list := range pools {
		if !slices.EqualFunc(list, before[kind], everyAsItWas) {
			t.Errorf("an argument of %v was written into", kind)
		}
	}
}

// Many goroutines ask the same of the same arguments at once; the race detector, where it is there, looks on.
func TestEveryFunctionFromManyAtOnce(t *testing.T) {
	type asked struct {
		c          everyCall
		args, want []reflect.Value
	}
	before, pools, list := runtime.NumGoroutine(), everyPools(), []asked{}
	for _, c := range everyFunction() {
		for _, args := range everyArgs(c, pools, 50) {
			list = append(list, asked{c, args, c.called(t, args)})
		}
	}
	var all sync.WaitGroup
	for who := range 16 {
		all.Add(1)
		go func() {
			defer all.Done()
			for i := range list {
				a := list[(i+who*len(list)/16)%len(list)]
				if got := a.c.called(t, a.args); !everyAllSame(got, a.want) {
					t.Errorf("%s answers %s, not %s: %s", a.c.name(), everyText(got), everyText(a.want), everyText(a.args))
				}
			}
		}()
	}
	all.Wait()
	nobodyLeft(t, before)
}
