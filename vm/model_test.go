package vm_test

import (
	"math/big"
	"strings"

	"cachet/api"
)

// line is what the document says of an Op: which registers it needs (d for D, s for S, 0 for register 0), and what it makes of D and of the other word, if it makes D anew of them.
type line struct {
	needs string
	makes func(d, other *big.Int) *big.Int
}

// lines are the document's Ops, written out once more, with whole numbers of any size.
var lines = map[api.Op]line{
	api.OpMovi: {"", func(_, o *big.Int) *big.Int { return o }},
	api.OpMov:  {"s", func(_, o *big.Int) *big.Int { return o }},
	api.OpAddi: {"d", func(d, o *big.Int) *big.Int { return new(big.Int).Add(d, o) }},
	api.OpAdd:  {"ds", func(d, o *big.Int) *big.Int { return new(big.Int).Add(d, o) }},
	api.OpSub:  {"ds", func(d, o *big.Int) *big.Int { return new(big.Int).Sub(d, o) }},
	api.OpMuli: {"d", func(d, o *big.Int) *big.Int { return new(big.Int).Mul(d, o) }},
	api.OpMul:  {"ds", func(d, o *big.Int) *big.Int { return new(big.Int).Mul(d, o) }},
	api.OpAndi: {"d", bitByBit("11")},
	api.OpAnd:  {"ds", bitByBit("11")},
	api.OpOr:   {"ds", bitByBit("01 10 11")},
	api.OpXor:  {"ds", bitByBit("01 10")},
	api.OpShli: {"d", func(d, o *big.Int) *big.Int { return new(big.Int).Mul(d, twoTo(o)) }},
	api.OpShri: {"d", func(d, o *big.Int) *big.Int { return new(big.Int).Quo(d, twoTo(o)) }},
	api.OpDiv:  {"ds", func(d, o *big.Int) *big.Int { return new(big.Int).Quo(d, o) }},
	api.OpMod: {"ds", func(d, o *big.Int) *big.Int {
		most := new(big.Int).Mul(new(big.Int).Quo(d, o), o)
		return most.Sub(d, most)
	}},
	api.OpLdc:  {"s", nil},
	api.OpLds:  {"s", nil},
	api.OpSts:  {"ds", nil},
	api.OpJa:   {"", nil},
	api.OpJeqi: {"d", nil},
	api.OpJlti: {"d", nil},
	api.OpJlt:  {"ds", nil},
	api.OpCall: {"", nil},
	api.OpExit: {"0", nil},
}

// twoTo is 2 to some power.
func twoTo(n *big.Int) *big.Int { return new(big.Int).Exp(big.NewInt(2), n, nil) }

// bitByBit sets those bits whose pair, of D and of the other word, is among those named.
func bitByBit(pairs string) func(d, o *big.Int) *big.Int {
	return func(d, o *big.Int) *big.Int {
		n := new(big.Int)
		for at := range 32 {
			pair := string([]byte{'0' + byte(d.Bit(at)), '0' + byte(o.Bit(at))})
			if strings.Contains(pairs, pair) {
				n.SetBit(n, at, 1)
			}
		}
		return n
	}
}

// hasSrc tells whether an Op's other word is a register.
func hasSrc(op api.Op) bool { return strings.Contains(lines[op].needs, "s") }

// isJump tells whether an Op jumps.
func isJump(op api.Op) bool { return op >= api.OpJa && op <= api.OpJlt }

// model is a run by the document's words.
type model struct {
	context, scratch []byte
	answers          []uint32
	at               int
	regs             map[int]uint32 // those that are set
	calls            []api.Call
}

// stands is how it stands.
func (m *model) stands() api.Moment {
	s := api.Moment{At: m.at}
	for n, w := range m.regs {
		s.Set[n], s.Regs[n] = true, w
	}
	return s
}

// other is the word that is not D.
func (m *model) other(i api.Ins) uint32 {
	if hasSrc(i.Op) {
		return m.regs[i.Src]
	}
	return i.Imm
}

// memory is the bytes that an instruction reaches into, and the place there; none of one that reaches into none.
func (m *model) memory(i api.Ins) ([]byte, int64) {
	switch i.Op {
	case api.OpLdc:
		return m.context, int64(m.regs[i.Src]) + int64(i.Off)
	case api.OpLds:
		return m.scratch, int64(m.regs[i.Src]) + int64(i.Off)
	case api.OpSts:
		return m.scratch, int64(m.regs[i.Dst]) + int64(i.Off)
	}
	return []byte{0}, 0
}

// fault is the first that is wrong with an instruction, in the document's order.
func (m *model) fault(i api.Ins) api.Fault {
	for _, part := range lines[i.Op].needs {
		if _, set := m.regs[map[rune]int{'d': i.Dst, 's': i.Src, '0': 0}[part]]; !set {
			return api.FaultUnset
		}
	}
	if (i.Op == api.OpDiv || i.Op == api.OpMod) && m.regs[i.Src] == 0 {
		return api.FaultDivide
	}
	if b, at := m.memory(i); at < 0 || at > int64(len(b))-1 {
		return api.FaultBounds
	}
	return api.FaultNone
}

// jumps tells whether an instruction jumps.
func (m *model) jumps(i api.Ins) bool {
	switch i.Op {
	case api.OpJa:
		return true
	case api.OpJeqi:
		return m.regs[i.Dst] == i.Imm
	case api.OpJlti, api.OpJlt:
		return m.regs[i.Dst] < m.other(i)
	}
	return false
}

// call is what a call does.
func (m *model) call(i api.Ins) {
	c := api.Call{Helper: int(i.Imm)}
	for n := 1; n <= 5; n++ {
		c.Args[n-1] = m.regs[n]
		delete(m.regs, n)
	}
	m.regs[0] = 0
	if n := len(m.calls); n < len(m.answers) {
		m.regs[0] = m.answers[n]
	}
	m.calls = append(m.calls, c)
}

// step does an instruction at which nothing is wrong, but an exit.
func (m *model) step(i api.Ins) {
	b, at := m.memory(i)
	switch i.Op {
	case api.OpLdc, api.OpLds:
		m.regs[i.Dst] = uint32(b[at])
	case api.OpSts:
		b[at] = byte(m.regs[i.Src] % 256)
	case api.OpCall:
		m.call(i)
	}
	if makes := lines[i.Op].makes; makes != nil {
		whole := makes(new(big.Int).SetUint64(uint64(m.regs[i.Dst])), new(big.Int).SetUint64(uint64(m.other(i))))
		m.regs[i.Dst] = uint32(whole.Mod(whole, big.NewInt(1<<32)).Uint64())
	}
	if m.jumps(i) {
		m.at += i.Off
	}
	m.at++
}

// modelOf is the run of an extension that may be, and how it stood ahead of each instruction.
func modelOf(p api.Program, context []byte, answers []uint32) (ran api.Ran, moments []api.Moment) {
	m := &model{context: context, scratch: make([]byte, 64), answers: answers, regs: map[int]uint32{}}
	for {
		moments = append(moments, m.stands())
		if m.at >= len(p.Ins) {
			ran.Fault = api.FaultJump
			break
		}
		i := p.Ins[m.at]
		if ran.Fault = m.fault(i); ran.Fault != api.FaultNone {
			break
		}
		ran.Steps++
		if i.Op == api.OpExit {
			ran.Value = m.regs[0]
			break
		}
		m.step(i)
	}
	ran.At, ran.Calls, ran.Scratch = m.at, m.calls, [64]byte(m.scratch)
	return ran, moments
}
