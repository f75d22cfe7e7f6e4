package impl

const (
	OpAdd = iota + 1
	OpSub
	OpMul
	OpAnd
	OpOr
	OpXor
	OpLess
	OpSame
	OpLeft
	OpRight
	opEnd // one behind the last op: how long a table by op is
)

// wordNames has nothing at 0, as no op has that number.
var wordNames = [opEnd]string{
	OpAdd:   "add",
	OpSub:   "sub",
	OpMul:   "mul",
	OpAnd:   "and",
	OpOr:    "or",
	OpXor:   "xor",
	OpLess:  "less",
	OpSame:  "same",
	OpLeft:  "left",
	OpRight: "right",
}

// shiftBits keeps of a shift its lowest six bits: from 0 to 63, of numbers below 0, too.
const shiftBits = 63

type wordFunc func(a int, b int) int

func WordOk(op int) bool { return op >= OpAdd && op < opEnd }

func Word(op int, a int, b int) int {
	if !WordOk(op) {
		return 0
	}
	funcs := [opEnd]wordFunc{
		OpAdd:   wordAdd,
		OpSub:   wordSub,
		OpMul:   wordMul,
		OpAnd:   wordAnd,
		OpOr:    wordOr,
		OpXor:   wordXor,
		OpLess:  wordLess,
		OpSame:  wordSame,
		OpLeft:  wordLeft,
		OpRight: wordRight,
	}
	return funcs[op](a, b)
}

func WordName(op int) string {
	if !WordOk(op) {
		return ""
	}
	return wordNames[op]
}

func WordOf(name string) int {
	for op := OpAdd; op < opEnd; op++ {
		if wordNames[op] == name {
			return op
		}
	}
	return 0
}

func wordAdd(a int, b int) int { return a + b }

func wordSub(a int, b int) int { return a - b }

func wordMul(a int, b int) int { return a * b }

func wordAnd(a int, b int) int { return a & b }

func wordOr(a int, b int) int { return a | b }

func wordXor(a int, b int) int { return a ^ b }

func wordLess(a int, b int) int { return wordFlag(a < b) }

func wordSame(a int, b int) int { return wordFlag(a == b) }

func wordLeft(a int, b int) int { return a << (b & shiftBits) }

func wordRight(a int, b int) int { return a >> (b & shiftBits) }

func wordFlag(holds bool) int {
	if holds {
		return 1
	}
	return 0
}
