package code_test

import (
	"encoding/binary"
	"fmt"
	"math"
	"strings"

	"cachet/api"
)

// row is a line of the document's table: a name, and how far each part goes. What is not used goes from 0 to 0.
type row struct {
	op       api.Op
	name     string
	form     string // what is used, in the table's order
	dst, src int
	from, to int
	imm      uint64
}

const anyWord = math.MaxUint32

// table is the document's, written out once more by numbers.
var table = []row{
	{1, "movi", "d i", 9, 0, 0, 0, anyWord},
	{2, "mov", "d s", 9, 9, 0, 0, 0},
	{3, "addi", "d i", 9, 0, 0, 0, anyWord},
	{4, "add", "d s", 9, 9, 0, 0, 0},
	{5, "sub", "d s", 9, 9, 0, 0, 0},
	{6, "muli", "d i", 9, 0, 0, 0, anyWord},
	{7, "mul", "d s", 9, 9, 0, 0, 0},
	{8, "andi", "d i", 9, 0, 0, 0, anyWord},
	{9, "and", "d s", 9, 9, 0, 0, 0},
	{10, "or", "d s", 9, 9, 0, 0, 0},
	{11, "xor", "d s", 9, 9, 0, 0, 0},
	{12, "shli", "d i", 9, 0, 0, 0, 31},
	{13, "shri", "d i", 9, 0, 0, 0, 31},
	{14, "div", "d s", 9, 9, 0, 0, 0},
	{15, "mod", "d s", 9, 9, 0, 0, 0},
	{16, "ldc", "d s o", 9, 9, -32768, 32767, 0},
	{17, "lds", "d s o", 9, 9, -32768, 32767, 0},
	{18, "sts", "d s o", 9, 9, -32768, 32767, 0},
	{19, "ja", "o", 0, 0, 0, 255, 0},
	{20, "jeqi", "d i o", 9, 0, 0, 255, anyWord},
	{21, "jlti", "d i o", 9, 0, 0, 255, anyWord},
	{22, "jlt", "d s o", 9, 9, 0, 255, 0},
	{23, "call", "i", 0, 0, 0, 0, 7},
	{24, "exit", "", 0, 0, 0, 0, 0},
}

// rowOf is an Op's line, if there is one.
func rowOf(op api.Op) (row, bool) {
	for _, r := range table {
		if r.op == op {
			return r, true
		}
	}
	return row{}, false
}

// mayBe tells by the table whether an instruction may be.
func mayBe(i api.Ins) bool {
	r, is := rowOf(i.Op)
	return is && 0 <= i.Dst && i.Dst <= r.dst && 0 <= i.Src && i.Src <= r.src && r.from <= i.Off && i.Off <= r.to && uint64(i.Imm) <= r.imm
}

// textOf is an instruction's text by the table.
func textOf(i api.Ins) string {
	r, _ := rowOf(i.Op)
	var parts []string
	for _, part := range strings.Fields(r.form) {
		switch part {
		case "d":
			parts = append(parts, fmt.Sprintf("r%d", i.Dst))
		case "s":
			parts = append(parts, fmt.Sprintf("r%d", i.Src))
		case "i":
			parts = append(parts, fmt.Sprintf("%d", i.Imm))
		case "o":
			parts = append(parts, fmt.Sprintf("%+d", i.Off))
		}
	}
	return strings.TrimSuffix(r.name+" "+strings.Join(parts, ", "), " ")
}

// headOf is what is ahead of so many instructions, whether they may be or not.
func headOf(context, count int) []byte {
	b := binary.LittleEndian.AppendUint16([]byte{0x43, 0x58}, uint16(context))
	return binary.LittleEndian.AppendUint16(b, uint16(count))
}

// eight is an instruction's eight bytes.
func eight(op, registers byte, off uint16, imm uint32) []byte {
	b := binary.LittleEndian.AppendUint16([]byte{op, registers}, off)
	return binary.LittleEndian.AppendUint32(b, imm)
}

// bytesOf is an extension's bytes.
func bytesOf(p api.Program) []byte {
	b := headOf(p.Context, len(p.Ins))
	for _, i := range p.Ins {
		b = append(b, eight(byte(i.Op), byte(i.Dst<<4|i.Src), uint16(int16(i.Off)), i.Imm)...)
	}
	return b
}

// opsAround are all Ops, the numbers beside them, and some far off, among them such as have an Op's number in their lowest byte.
func opsAround() []api.Op {
	l := []api.Op{math.MinInt, -1 << 31, -256, -255, -2, -1}
	for op := api.Op(0); op <= 27; op++ {
		l = append(l, op)
	}
	return append(l, 255, 256, 257, 280, 1<<32+1, math.MaxInt)
}

var (
	registersAround = []int{math.MinInt, -16, -1, 0, 1, 8, 9, 10, 15, 16, 17, 256, 1 << 32, math.MaxInt}
	offsAround      = []int{math.MinInt, -65536, -32769, -32768, -32767, -256, -1, 0, 1, 254, 255, 256, 32767, 32768, 65535, 65536, 1 << 32, math.MaxInt}
	immsAround      = []uint32{0, 1, 6, 7, 8, 30, 31, 32, 255, 256, 1<<31 - 1, 1 << 31, math.MaxUint32}
)

// around tells each instruction whose parts are at their bounds, beside them, or far off.
func around(tell func(i api.Ins)) {
	for _, op := range opsAround() {
		for _, dst := range registersAround {
			for _, src := range registersAround {
				for _, off := range offsAround {
					for _, imm := range immsAround {
						tell(api.Ins{Op: op, Dst: dst, Src: src, Off: off, Imm: imm})
					}
				}
			}
		}
	}
}

// good are the instructions around that may be.
func good() []api.Ins {
	var l []api.Ins
	around(func(i api.Ins) {
		if mayBe(i) {
			l = append(l, i)
		}
	})
	return l
}

// many are so many instructions that may be, of which no two beside one another are alike.
func many(n int) []api.Ins {
	l := make([]api.Ins, n)
	for i := range l {
		l[i] = api.Ins{Op: api.OpAddi, Dst: i % 10, Imm: uint32(i) * 65537}
	}
	return l
}
