package mem_test

import (
	"math/big"
	"slices"

	"ferrule/api"
)

// The chapter told plainly, so that the package is held against something that is made otherwise: bytes are numbers from 0 to 255, and sums are of whole numbers without an end.

// end is where the document lets the memory end, written out anew.
const end = 1048576

type plain []int

// zeros are the bytes of a new memory.
func zeros() plain { return make(plain, end) }

// power tells 2 to the power of so many bytes' bits.
func power(bytes int) *big.Int {
	p := big.NewInt(1)
	for range bytes {
		p.Mul(p, big.NewInt(256))
	}
	return p
}

// plainFault tells what is against so many bytes at an address, in the chapter's order.
func plainFault(at, bytes int) api.Errno {
	if !slices.Contains([]int{1, 2, 4}, bytes) {
		return 2
	}
	if at/bytes*bytes != at {
		return 2
	}
	last := new(big.Int).Add(big.NewInt(int64(at)), big.NewInt(int64(bytes)))
	if at < 0 || last.Cmp(big.NewInt(end)) > 0 {
		return 11
	}
	return 0
}

func (p plain) load(at, bytes int, signed bool) (int, api.Errno) {
	if e := plainFault(at, bytes); e != 0 {
		return 0, e
	}
	v := new(big.Int)
	for k := bytes - 1; k >= 0; k-- {
		v.Mul(v, big.NewInt(256))
		v.Add(v, big.NewInt(int64(p[at+k])))
	}
	half := new(big.Int).Div(power(bytes), big.NewInt(2))
	if signed && v.Cmp(half) >= 0 {
		v.Sub(v, power(bytes))
	}
	return int(v.Int64()), 0
}

func (p plain) store(at, bytes, v int) api.Errno {
	if e := plainFault(at, bytes); e != 0 {
		return e
	}
	left := new(big.Int).Mod(big.NewInt(int64(v)), power(bytes)) // from 0 on, whatever v's sign
	for k := range bytes {
		var b big.Int
		left.DivMod(left, big.NewInt(256), &b)
		p[at+k] = int(b.Int64())
	}
	return 0
}

func (p plain) copied(at, n int) []byte {
	last := new(big.Int).Add(big.NewInt(int64(at)), big.NewInt(int64(n)))
	if n < 1 || at < 0 || last.Cmp(big.NewInt(end)) > 0 {
		return nil
	}
	l := make([]byte, n)
	for k := range l {
		l[k] = byte(p[at+k])
	}
	return l
}
