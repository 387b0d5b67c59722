package code

import "cachet/api"

const (
	mark = "CX"          // what an extension's bytes begin with
	head = len(mark) + 4 // how many bytes are ahead of the instructions
	size = 8             // how many bytes an instruction has

	high = 16 // by how much Dst stands above Src in their byte
)

// How many bytes a number has.
const (
	one  = 1
	two  = 2
	four = 4
)

// laid lays an extension that may be as bytes.
func laid(p api.Program) []byte {
	b := make([]byte, 0, head+len(p.Ins)*size)
	lay := func(more ...byte) { b = append(b, more...) }
	lay([]byte(mark)...)
	lay(low(uint32(p.Context), two)...)
	lay(low(uint32(len(p.Ins)), two)...)
	for _, i := range p.Ins {
		lay(byte(i.Op), byte(i.Dst*high+i.Src))
		lay(low(uint32(i.Off), two)...)
		lay(low(i.Imm, four)...)
	}
	return b
}

// low is a number's bytes, the lowest first: so many, whatever is above them.
func low(n uint32, width int) []byte {
	b := make([]byte, width)
	for at := range b {
		b[at] = byte(n >> (8 * at))
	}
	return b
}

// whole tells whether bytes have their mark, and just as many instructions as they say.
func whole(b []byte) bool {
	if len(b) < head || string(b[:len(mark)]) != mark {
		return false
	}
	take := takers(b[head-two:])
	return len(b) == head+int(take[two]())*size
}

// taken takes the extension off whole bytes; it may be one that may not be.
func taken(b []byte) api.Program {
	take := takers(b[len(mark):])
	p := api.Program{Context: int(take[two]())}
	count := int(take[two]())
	for range count {
		p.Ins = append(p.Ins, ins(take))
	}
	return p
}

// ins takes the next instruction.
func ins(take map[int]func() uint32) api.Ins {
	op := api.Op(take[one]())
	registers := int(take[one]())
	// Sixteen bits with their sign: what is below 0 has 65536 more.
	away := int(int16(take[two]()))
	return api.Ins{Op: op, Dst: registers / high, Src: registers % high, Off: away, Imm: take[four]()}
}

// takers makes, by how many bytes a number has, what takes the next one off: all of them off the same bytes, one behind the other.
func takers(left []byte) map[int]func() uint32 {
	taker := func(width int) func() uint32 {
		return func() uint32 {
			var n uint32
			for at, x := range left[:width] {
				n |= uint32(x) << (8 * at)
			}
			left = left[width:]
			return n
		}
	}
	return map[int]func() uint32{one: taker(one), two: taker(two), four: taker(four)}
}
