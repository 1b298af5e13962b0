package mir

// do tells what an operation makes of two words. Go's own numbers of 32 bits go round as words do, and its quotients are towards 0.
func do(op string, a, b int32) (int32, bool) {
	switch op {
	case "add":
		return a + b, true
	case "sub":
		return a - b, true
	case "mul":
		return a * b, true
	case "mulh":
		return int32(int64(a) * int64(b) >> 32), true
	case "mulhu":
		return int32(uint64(uint32(a)) * uint64(uint32(b)) >> 32), true
	case "div", "divu", "rem", "remu":
		return divided(op, a, b), true
	case "and":
		return a & b, true
	case "or":
		return a | b, true
	case "xor":
		return a ^ b, true
	case "sll":
		return a << bits(b), true
	case "srl":
		return int32(uint32(a) >> bits(b)), true
	case "sra":
		return a >> bits(b), true
	case "slt":
		return truth(a < b), true
	case "sltu":
		return truth(uint32(a) < uint32(b)), true
	}
	return 0, false
}

// divided tells a quotient or what is left of it; nothing is divided by 0.
func divided(op string, a, b int32) int32 {
	left := op == "rem" || op == "remu"
	switch {
	case b == 0 && left:
		return a
	case b == 0:
		return -1
	}
	switch op {
	case "div":
		return a / b
	case "divu":
		return int32(uint32(a) / uint32(b))
	case "rem":
		return a % b
	}
	return int32(uint32(a) % uint32(b))
}

// bits tells by how many of them a word shifts.
func bits(b int32) int32 { return b & 31 }

func truth(is bool) int32 {
	if is {
		return 1
	}
	return 0
}
