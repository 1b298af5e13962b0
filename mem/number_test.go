package mem_test

import (
	"math"
	"math/rand"
	"testing"

	"ferrule/api"
	"ferrule/mem"
)

// P24.1: numbers that are stored and loaded.

func TestPlacesOfTheMemory(t *testing.T) {
	if mem.End != end || mem.Stack != 524288 {
		t.Errorf("End %d, Stack %d", mem.End, mem.Stack)
	}
}

func TestExample(t *testing.T) {
	m := mem.New()
	store(t, m, 4, 2, -2, api.OK)
	load(t, m, 4, 2, false, 65534, api.OK)
	load(t, m, 5, 1, true, -1, api.OK)
	load(t, m, 4, 1, false, 254, api.OK)
	load(t, m, 4, 4, true, 65534, api.OK)
}

func TestAllIs0AtFirst(t *testing.T) {
	m := mem.New()
	whole(t, m, zeros())
	byBytes(t, m, zeros())
	for at := 0; at < end; at += 4 {
		both(t, m, at, 4, 0, 0)
		both(t, m, at, 2, 0, 0)
		both(t, m, at+2, 2, 0, 0)
	}
}

// The lowest byte is the first one.
func TestLowestFirst(t *testing.T) {
	m := mem.New()
	for _, at := range []int{0, 4, 1000, mem.Stack - 4, mem.Stack, end - 8, end - 4} {
		store(t, m, at, 4, 0x84f372e1-1<<32, api.OK)
		both(t, m, at, 4, 0x84f372e1, 0x84f372e1-1<<32)
		both(t, m, at, 2, 0x72e1, 0x72e1)
		both(t, m, at+2, 2, 0x84f3, 0x84f3-0x10000)
		for k, b := range []int{0xe1, 0x72, 0xf3, 0x84} {
			signed := b
			if b > 127 {
				signed -= 256
			}
			both(t, m, at+k, 1, b, signed)
		}
		store(t, m, at+2, 2, 0x6655, api.OK)
		both(t, m, at, 4, 0x665572e1, 0x665572e1)
		store(t, m, at+1, 1, 0x44, api.OK)
		both(t, m, at, 4, 0x665544e1, 0x665544e1)
		both(t, m, at, 2, 0x44e1, 0x44e1)
	}
}

// Each word of the memory is held against its four bytes and its two halves, with another word everywhere.
func TestEachWord(t *testing.T) {
	r := rand.New(rand.NewSource(24))
	m, words := mem.New(), make([]uint32, end/4)
	for k := range words {
		words[k] = r.Uint32()
		store(t, m, 4*k, 4, int(words[k]), api.OK)
	}
	for k, w := range words {
		at := 4 * k
		both(t, m, at, 4, int(w), int(int32(w)))
		for h := range 2 {
			half := uint16(w >> (16 * h))
			both(t, m, at+2*h, 2, int(half), int(int16(half)))
		}
		for b := range 4 {
			one := byte(w >> (8 * b))
			both(t, m, at+b, 1, int(one), int(int8(one)))
		}
	}
}

// Bytes that are stored one by one, and halves, are words.
func TestWordsOfBytesAndHalves(t *testing.T) {
	r := rand.New(rand.NewSource(241))
	m, p := mem.New(), zeros()
	for at := 0; at < end; at += 1020 {
		n := 1 + r.Intn(2)
		for k := 0; k < 4; k += n {
			v := r.Int() - r.Int()
			store(t, m, at+k, n, v, p.store(at+k, n, v))
		}
		alike(t, m, p, at, 4)
	}
	whole(t, m, p)
}

// Of each number its lowest bytes are left, whatever its sign: v modulo 2^(8 · bytes).
func TestNumbersBeyondTheirBytes(t *testing.T) {
	m, p := mem.New(), zeros()
	for _, v := range numbers() {
		for _, n := range sizes {
			for _, at := range []int{0, 8, mem.Stack - 4, mem.Stack, end - 4, end - n} {
				store(t, m, at, n, v, p.store(at, n, v))
				for _, size := range sizes {
					alike(t, m, p, at, size)
				}
			}
		}
	}
	whole(t, m, p)
}

// The least and the greatest number of each size, and one beyond both.
func TestEndsOfNumbers(t *testing.T) {
	m := mem.New()
	for _, n := range sizes {
		half, beyond := 1<<(8*n-1), 1<<(8*n)
		for _, c := range []struct{ v, unsigned, signed int }{
			{0, 0, 0},
			{1, 1, 1},
			{-1, beyond - 1, -1},
			{half - 1, half - 1, half - 1},
			{half, half, -half},
			{half + 1, half + 1, 1 - half},
			{-half, half, -half},
			{-half - 1, half - 1, half - 1},
			{1 - half, half + 1, 1 - half},
			{beyond - 1, beyond - 1, -1},
			{beyond, 0, 0},
			{beyond + 1, 1, 1},
			{-beyond, 0, 0},
			{-beyond - 1, beyond - 1, -1},
			{1 - beyond, 1, 1},
			{math.MaxInt, beyond - 1, -1},
			{math.MinInt, 0, 0},
			{math.MinInt + 1, 1, 1},
			{math.MaxInt - 1, beyond - 2, -2},
		} {
			store(t, m, 12, n, c.v, api.OK)
			both(t, m, 12, n, c.unsigned, c.signed)
		}
	}
}

// Each byte and each half, from 0 on and with its sign.
func TestEachByteAndEachHalf(t *testing.T) {
	m := mem.New()
	for v := range 1 << 16 {
		at := 2 * v
		store(t, m, at, 2, v, api.OK)
		both(t, m, at, 2, v, int(int16(v)))
		store(t, m, end-1, 1, v, api.OK)
		both(t, m, end-1, 1, v%256, int(int8(v)))
	}
}

// A load with a sign is a word's, a half's or a byte's own: what stands behind it has no part in it.
func TestSignOfItsOwn(t *testing.T) {
	m := mem.New()
	store(t, m, 16, 4, -1, api.OK)
	store(t, m, 16, 2, 0x7fff, api.OK)
	both(t, m, 16, 2, 0x7fff, 0x7fff)
	store(t, m, 16, 1, 0x7f, api.OK)
	both(t, m, 16, 1, 0x7f, 0x7f)
	store(t, m, 16, 4, 0, api.OK)
	store(t, m, 16, 1, 0x80, api.OK)
	both(t, m, 16, 1, 0x80, -0x80)
	both(t, m, 16, 2, 0x80, 0x80)
	both(t, m, 16, 4, 0x80, 0x80)
}
