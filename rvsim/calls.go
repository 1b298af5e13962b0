package rvsim

import "ferrule/api"

// The registers that an ecall reads: what it is given and answers, and which one it is.
const (
	a0 = 10
	a7 = 17
)

// Which ecall does what.
const (
	callPrint         = 1
	callPrintFromZero = 2
	callRead          = 3
	callAlloc         = 4
	callFree          = 5
	callExit          = 6
	callDepth         = 7
)

func (m *Machine) ecall(api.Insn) bool {
	given := m.x[a0]
	switch m.x[a7] {
	case callPrint:
		m.printed = append(m.printed, given)
	case callPrintFromZero:
		m.printed = append(m.printed, int(uint32(given)))
	case callRead:
		m.set(a0, m.read())
	case callAlloc:
		return m.alloc(given)
	case callFree:
		return m.heap.Free(given) == api.OK
	case callExit:
		m.end = api.Outcome{Kind: api.OutExit, Code: given}
	case callDepth:
		m.end.Kind = api.OutDepth
	default:
		return false
	}
	return true
}

func (m *Machine) ebreak(api.Insn) bool { return false }

// read takes the next number of the input.
func (m *Machine) read() int {
	if len(m.input) == 0 {
		return 0
	}
	n := m.input[0]
	m.input = m.input[1:]
	return n
}

func (m *Machine) alloc(words int) bool {
	at, e := m.heap.Alloc(words)
	switch e {
	case api.OK:
		m.set(a0, at)
	case api.ErrFull:
		m.end.Kind = api.OutMemory
	default:
		return false
	}
	return true
}
