package rvsim_test

import (
	"math/big"
	"strconv"
	"strings"

	"ferrule/api"
	"ferrule/insn"
)

// A plain telling of the chapter: words and addresses are numbers from 0 on, below 2^32, sums are made of whole numbers without an end, the memory is bytes by their addresses, and a heap's blocks stand in a list.

const (
	turn  = 1 << 32
	base  = 1 << 18
	stack = 1 << 19
	end   = 1 << 20
)

// immediates are the instructions with a number in place of a second register.
var immediates = map[string]string{
	"addi": "add", "slti": "slt", "sltiu": "sltu", "xori": "xor", "ori": "or", "andi": "and", "slli": "sll", "srli": "srl", "srai": "sra",
}

// block is one of the heap.
type block struct {
	at, words int
	used      bool
}

// plain is a plain machine.
type plain struct {
	x       [32]int
	pc      int
	code    []uint32
	bytes   map[int]int
	blocks  []block
	input   []int
	printed []int
	kind    int
	exit    int
	steps   int
}

func newPlain(words []uint32, input []int) *plain {
	p := &plain{code: append([]uint32{}, words...), bytes: map[int]int{}, input: append([]int{}, input...)}
	p.x[2] = end
	at := base
	for _, class := range [][2]int{{64, 4}, {32, 16}, {16, 64}, {8, 128}} {
		for range class[0] {
			p.blocks = append(p.blocks, block{at: at, words: class[1]})
			at += 4 * class[1]
		}
	}
	return p
}

// around tells a whole number modulo 2^32.
func around(n *big.Int) int {
	return int(new(big.Int).Mod(n, big.NewInt(turn)).Int64())
}

// wordOf tells an int modulo 2^32.
func wordOf(n int) int { return around(big.NewInt(int64(n))) }

// signed tells a number of so many bytes, from 0 on, with a sign.
func signed(n, bytes int) int {
	most := 1 << (8 * bytes)
	if n >= most/2 {
		return n - most
	}
	return n
}

func (p *plain) outcome() api.Outcome {
	return api.Outcome{Kind: p.kind, Code: p.exit, Print: append([]int{}, p.printed...)}
}

// step runs an instruction, as P25.2 says.
func (p *plain) step() bool {
	if p.kind != api.OutFuel {
		return false
	}
	p.steps++
	before := *p
	if !p.instruction() {
		*p = before
		p.kind = api.OutTrap
	}
	return p.kind == api.OutFuel
}

// instruction runs the one at the pc; false: it is OutTrap.
func (p *plain) instruction() bool {
	if p.pc%4 != 0 || p.pc >= 4*len(p.code) {
		return false
	}
	i, e := insn.Decode(p.code[p.pc/4])
	if e != api.OK || i.Op == "ebreak" {
		return false
	}
	ok, next := true, wordOf(p.pc+4)
	a, b := p.x[i.Rs1], p.x[i.Rs2]
	switch {
	case i.Op == "ecall":
		ok = p.ecall()
	case i.Op == "lui":
		p.x[i.Rd] = i.Imm * 4096
	case i.Op == "auipc":
		p.x[i.Rd] = wordOf(p.pc + i.Imm*4096)
	case i.Op == "jal":
		p.x[i.Rd], next = next, wordOf(p.pc+i.Imm)
	case i.Op == "jalr":
		to := wordOf(a + i.Imm)
		p.x[i.Rd], next = next, to-to%2
	case strings.HasPrefix(i.Op, "b"):
		if goes(i.Op[1:], a, b) {
			next = wordOf(p.pc + i.Imm)
		}
	case strings.Contains(" lb lh lw lbu lhu ", " "+i.Op+" "):
		ok = p.loads(i, wordOf(a+i.Imm))
	case i.Op == "sb" || i.Op == "sh" || i.Op == "sw":
		ok = p.stores(i, wordOf(a+i.Imm))
	case immediates[i.Op] != "":
		p.x[i.Rd] = makes(immediates[i.Op], a, wordOf(i.Imm))
	default:
		p.x[i.Rd] = makes(i.Op, a, b)
	}
	p.x[0] = 0
	if ok {
		p.pc = next
	}
	return ok
}

// goes tells whether a branch holds.
func goes(asks string, a, b int) bool {
	switch asks {
	case "eq":
		return a == b
	case "ne":
		return a != b
	case "lt":
		return signed(a, 4) < signed(b, 4)
	case "ge":
		return signed(a, 4) >= signed(b, 4)
	case "ltu":
		return a < b
	}
	return a >= b
}

// makes tells what an operation makes of two words.
func makes(op string, a, b int) int {
	u, v := big.NewInt(int64(a)), big.NewInt(int64(b))
	s, w := big.NewInt(int64(signed(a, 4))), big.NewInt(int64(signed(b, 4)))
	out := new(big.Int)
	switch op {
	case "add":
		return around(out.Add(u, v))
	case "sub":
		return around(out.Sub(u, v))
	case "xor":
		return a ^ b
	case "or":
		return a | b
	case "and":
		return a & b
	case "sll":
		return around(out.Lsh(u, uint(b%32)))
	case "srl":
		return around(out.Rsh(u, uint(b%32)))
	case "sra":
		return around(out.Rsh(s, uint(b%32)))
	case "slt":
		return oneIf(s.Cmp(w) < 0)
	case "sltu":
		return oneIf(u.Cmp(v) < 0)
	case "mul":
		return around(out.Mul(u, v))
	case "mulh":
		return around(out.Rsh(out.Mul(s, w), 32))
	case "mulhsu":
		return around(out.Rsh(out.Mul(s, v), 32))
	case "mulhu":
		return around(out.Rsh(out.Mul(u, v), 32))
	}
	return divides(op, s, w, u, v)
}

// divides tells a quotient or a rest: of the first two with signs, of the last two without.
func divides(op string, s, w, u, v *big.Int) int {
	if v.Sign() == 0 && strings.HasPrefix(op, "div") {
		return turn - 1
	}
	if v.Sign() == 0 {
		return around(u)
	}
	out := new(big.Int)
	switch op {
	case "div":
		return around(out.Quo(s, w))
	case "divu":
		return around(out.Quo(u, v))
	case "rem":
		return around(out.Rem(s, w))
	case "remu":
		return around(out.Rem(u, v))
	}
	panic(op)
}

func oneIf(holds bool) int {
	if holds {
		return 1
	}
	return 0
}

// size tells how many bytes a load or a store is of, by its name's second letter.
func size(op string) int {
	return map[byte]int{'b': 1, 'h': 2, 'w': 4}[op[1]]
}

func (p *plain) loads(i api.Insn, at int) bool {
	n := size(i.Op)
	if !p.usable(at, n) {
		return false
	}
	v := p.load(at, n)
	if !strings.HasSuffix(i.Op, "u") {
		v = wordOf(signed(v, n))
	}
	p.x[i.Rd] = v
	return true
}

func (p *plain) load(at, n int) int {
	v := 0
	for k := n - 1; k >= 0; k-- {
		v = v*256 + p.bytes[at+k]
	}
	return v
}

func (p *plain) stores(i api.Insn, at int) bool {
	n := size(i.Op)
	if !p.usable(at, n) {
		return false
	}
	v := p.x[i.Rs2]
	for k := range n {
		p.bytes[at+k] = v % 256
		v /= 256
	}
	return true
}

// usable asks each byte.
func (p *plain) usable(at, n int) bool {
	inStack, inBlocks := true, true
	for k := at; k < at+n; k++ {
		inStack = inStack && stack <= k && k < end
		inBlocks = inBlocks && p.inBlock(k)
	}
	return at%n == 0 && (inStack || inBlocks)
}

func (p *plain) inBlock(at int) bool {
	for _, b := range p.blocks {
		if b.used && b.at <= at && at < b.at+4*b.words {
			return true
		}
	}
	return false
}

// ecall does what P25.3 says.
func (p *plain) ecall() bool {
	given := p.x[10]
	switch p.x[17] {
	case 1:
		p.printed = append(p.printed, signed(given, 4))
	case 2:
		p.printed = append(p.printed, given)
	case 3:
		p.x[10] = 0
		if len(p.input) > 0 {
			p.x[10] = wordOf(p.input[0])
			p.input = p.input[1:]
		}
	case 4:
		return p.alloc(given)
	case 5:
		return p.free(given)
	case 6:
		p.kind, p.exit = api.OutExit, signed(given, 4)
	case 7:
		p.kind = api.OutDepth
	default:
		return false
	}
	return true
}

// alloc takes the first block of the least class that has so many words.
func (p *plain) alloc(words int) bool {
	class := 0
	for _, size := range []int{128, 64, 16, 4} {
		if words <= size {
			class = size
		}
	}
	if class == 0 {
		return false
	}
	for k, b := range p.blocks {
		if b.words == class && !b.used {
			p.blocks[k].used = true
			p.x[10] = b.at
			return true
		}
	}
	p.kind = api.OutMemory
	return true
}

func (p *plain) free(at int) bool {
	for k, b := range p.blocks {
		if b.at == at && b.used {
			p.blocks[k].used = false
			return true
		}
	}
	return false
}

// told writes an outcome.
func told(o api.Outcome) string {
	s := strconv.Itoa(o.Kind) + " " + strconv.Itoa(o.Code) + " ["
	for k, n := range o.Print {
		if k == 20 {
			return s + " .. of " + strconv.Itoa(len(o.Print)) + "]"
		}
		s += " " + strconv.Itoa(n)
	}
	return s + " ]"
}
