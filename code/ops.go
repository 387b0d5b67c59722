package code

import (
	"math"

	"cachet/api"
)

// uses is a sum of flags: which parts of an instruction an Op uses, and how far these go.
type uses int

const (
	dst    uses = 1 << iota // Dst
	src                     // Src
	word                    // Imm, any word
	shift                   // Imm, by how many bits
	helper                  // Imm, a helper's number
	reach                   // Off, ahead or back
	jump                    // Off, ahead only

	imm = word | shift | helper
	off = reach | jump
)

const (
	greatShift = 31
	leastReach = math.MinInt16
	greatReach = math.MaxInt16
	greatJump  = 255
)

// ops has each Op at its number; OpNone is none.
var ops = [...]struct {
	name string
	uses uses
}{
	api.OpMovi: {"movi", dst | word},
	api.OpMov:  {"mov", dst | src},
	api.OpAddi: {"addi", dst | word},
	api.OpAdd:  {"add", dst | src},
	api.OpSub:  {"sub", dst | src},
	api.OpMuli: {"muli", dst | word},
	api.OpMul:  {"mul", dst | src},
	api.OpAndi: {"andi", dst | word},
	api.OpAnd:  {"and", dst | src},
	api.OpOr:   {"or", dst | src},
	api.OpXor:  {"xor", dst | src},
	api.OpShli: {"shli", dst | shift},
	api.OpShri: {"shri", dst | shift},
	api.OpDiv:  {"div", dst | src},
	api.OpMod:  {"mod", dst | src},
	api.OpLdc:  {"ldc", dst | src | reach},
	api.OpLds:  {"lds", dst | src | reach},
	api.OpSts:  {"sts", dst | src | reach},
	api.OpJa:   {"ja", jump},
	api.OpJeqi: {"jeqi", dst | word | jump},
	api.OpJlti: {"jlti", dst | word | jump},
	api.OpJlt:  {"jlt", dst | src | jump},
	api.OpCall: {"call", helper},
	api.OpExit: {"exit", 0},
}

// there tells whether there is such an Op.
func there(op api.Op) bool { return api.OpNone < op && op <= api.OpExit }

// may tells whether an instruction may be.
func may(i api.Ins) bool {
	if !there(i.Op) {
		return false
	}
	used := ops[i.Op].uses
	return used.takesRegister(dst, i.Dst) && used.takesRegister(src, i.Src) && used.takesOff(i.Off) && used.takesImm(i.Imm)
}

// has tells whether a part is among those used.
func (u uses) has(part uses) bool { return u&part != 0 }

// takesRegister tells whether a number may stand where a register is named.
func (u uses) takesRegister(part uses, n int) bool {
	if !u.has(part) {
		return n == 0
	}
	return 0 <= n && n < api.Registers
}

// takesOff tells whether a number may be Off.
func (u uses) takesOff(n int) bool {
	switch {
	case u.has(reach):
		return leastReach <= n && n <= greatReach
	case u.has(jump):
		return 0 <= n && n <= greatJump
	}
	return n == 0
}

// takesImm tells whether a word may be Imm.
func (u uses) takesImm(n uint32) bool {
	switch {
	case u.has(word):
		return true
	case u.has(shift):
		return n <= greatShift
	case u.has(helper):
		return n < api.Helpers
	}
	return n == 0
}
