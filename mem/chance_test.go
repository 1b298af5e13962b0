package mem_test

import (
	"math/rand"
	"slices"
	"strconv"
	"testing"

	"ferrule/api"
	"ferrule/mem"
)

// P24.3, and all of P24.1 and P24.2 with it: sequences of calls made by chance, held against a plain telling of the chapter.

// What is stored is loaded, and each other byte near it stays as it was.
func TestOtherBytesStay(t *testing.T) {
	r := rand.New(rand.NewSource(243))
	m, _ := filled(t)
	for range 20000 {
		n := sizes[r.Intn(3)]
		at := r.Intn(end/n) * n
		from, to := max(at-9, 0), min(at+n+9, end)
		before := m.Copy(from, to-from)
		v := numberByChance(r)
		store(t, m, at, n, v, api.OK)
		both(t, m, at, n, int(uint(v)<<(64-8*n)>>(64-8*n)), v<<(64-8*n)>>(64-8*n))
		after := m.Copy(from, to-from)
		if !slices.Equal(before[:at-from], after[:at-from]) || !slices.Equal(before[at-from+n:], after[at-from+n:]) {
			t.Fatalf("Store(%d, %d, %d): % x became % x", at, n, v, before, after)
		}
	}
}

// One Store into a memory that is full, and one into one of 0s: all the others of its bytes are as they were.
func TestAllOtherBytesStay(t *testing.T) {
	for _, n := range sizes {
		for _, at := range []int{0, 4, 1000 + n, mem.Stack - n, mem.Stack, end - 2*n, end - n} {
			m, p := filled(t)
			store(t, m, at, n, -at-6, p.store(at, n, -at-6))
			whole(t, m, p)
			m, p = mem.New(), zeros()
			store(t, m, at, n, -at-6, p.store(at, n, -at-6))
			whole(t, m, p)
		}
	}
}

func numberByChance(r *rand.Rand) int {
	v := int(r.Uint64()) >> r.Intn(64)
	if r.Intn(4) == 0 {
		l := numbers()
		v = l[r.Intn(len(l))]
	}
	return v
}

func sizeByChance(r *rand.Rand) int {
	if r.Intn(12) == 0 {
		return wrongSizes[r.Intn(len(wrongSizes))]
	}
	return sizes[r.Intn(3)]
}

// placeByChance tells one of a few places all over the memory, or around them, so that many are met again.
func placeByChance(r *rand.Rand, n int) int {
	at := []int{0, 1 << 10, 1 << 18, mem.Stack, end - 64, end}[r.Intn(6)] + r.Intn(80) - 16
	switch r.Intn(12) {
	case 0:
		return farPlaces[r.Intn(len(farPlaces))]
	case 1:
		return at
	case 2:
		at = r.Intn(end)
	}
	if n > 0 && n <= 8 {
		at -= at % n
	}
	return at
}

func countByChance(r *rand.Rand) int {
	switch r.Intn(8) {
	case 0:
		return numberByChance(r)
	case 1:
		return r.Intn(5000)
	}
	return r.Intn(40) - 2
}

// held is a copy that was answered, and what it was.
type held struct{ got, want []byte }

// calls makes so many calls of a memory, all by chance.
func calls(t *testing.T, r *rand.Rand, m *mem.Memory, p plain, many int) {
	t.Helper()
	var copied []held
	for range many {
		n := sizeByChance(r)
		at := placeByChance(r, n)
		switch k := r.Intn(400); {
		case k == 0:
			empties(t, m)
			clear(p)
		case k == 1:
			whole(t, m, p)
		case k < 180:
			v := numberByChance(r)
			store(t, m, at, n, v, p.store(at, n, v))
		case k < 300:
			alike(t, m, p, at, n)
		default:
			count := countByChance(r)
			want := p.copied(at, count)
			copies(t, m, at, count, want)
			copied = append(copied, held{m.Copy(at, count), want})
		}
	}
	for _, c := range copied {
		if !slices.Equal(c.got, c.want) {
			t.Fatal("what Copy answered has changed since")
		}
	}
	whole(t, m, p)
}

func TestMemoriesByChance(t *testing.T) {
	for seed := range 40 {
		r := rand.New(rand.NewSource(int64(seed)))
		m, p := mem.New(), zeros()
		if seed%4 == 0 {
			m, p = filled(t)
		}
		calls(t, r, m, p, 3000)
		if seed%8 == 1 {
			byBytes(t, m, p)
		}
	}
}

// Memories that are used at one time are each as if alone.
func TestMemoriesAtOneTime(t *testing.T) {
	for n := range 4 {
		t.Run(strconv.Itoa(n), func(t *testing.T) {
			t.Parallel()
			r := rand.New(rand.NewSource(int64(900 + n/2))) // two of them make the same calls
			calls(t, r, mem.New(), zeros(), 3000)
		})
	}
}

// So are memories that are used in turn.
func TestMemoriesInTurn(t *testing.T) {
	m, other := mem.New(), mem.New()
	p, q := zeros(), zeros()
	r := rand.New(rand.NewSource(244))
	for range 40 {
		calls(t, r, m, p, 50)
		calls(t, r, other, q, 50)
	}
}

// The same is answered whenever it is asked: Load and Copy change nothing.
func TestAskedAgain(t *testing.T) {
	m, p := filled(t)
	for range 3 {
		for _, n := range append(slices.Clone(sizes), wrongSizes...) {
			for _, at := range append([]int{0, 1, 2, 4, 5, mem.Stack, end - 4, end - 2, end - 1, end, end + 1, -1, -4}, farPlaces...) {
				alike(t, m, p, at, n)
			}
		}
		copies(t, m, 100, 100, p.copied(100, 100))
	}
	whole(t, m, p)
}
