package fold_test

import (
	"testing"

	"ferrule/api"
)

// P15.2 of functions by hand: what is told of them, just so.

// main is one of blocks, with six scalars.
func main(blocks ...api.Block) api.Mir {
	return fn("main", []int{1, 1, 1, 1, 1, 1}, 0, 0, blocks...)
}

func TestNumbers(t *testing.T) {
	const most, least = 1<<31 - 1, -1 << 31
	for _, c := range []struct {
		op   string
		a, b int
		want string
	}{
		{"add", 1, 2, "3"}, {"add", most, 1, "-2147483648"}, {"add", 1 << 31, 0, "-2147483648"}, {"add", 1 << 32, 1, "1"}, {"sub", least, 1, "2147483647"}, {"sub", 0, least, "-2147483648"}, {"mul", 1 << 16, 1 << 16, "0"}, {"mul", most, most, "1"}, {"mul", 1 << 40, 5, "0"},
		{"mulh", most, most, "1073741823"}, {"mulhu", -1, -1, "-2"}, {"mulh", -1, 1, "-1"},
		{"div", -7, 2, "-3"}, {"div", 7, 0, "-1"}, {"div", least, -1, "-2147483648"}, {"divu", -1, 2, "2147483647"}, {"divu", 7, 0, "-1"}, {"divu", 7, 1 << 32, "-1"}, {"rem", -7, 2, "-1"}, {"rem", 7, 0, "7"}, {"rem", least, -1, "0"}, {"remu", -1, 10, "5"}, {"remu", -7, 0, "-7"},
		{"and", 12, 10, "8"}, {"or", 12, 10, "14"}, {"xor", 12, -1, "-13"}, {"sll", 1, 31, "-2147483648"}, {"sll", 1, 33, "2"}, {"srl", -1, 31, "1"}, {"sra", -1, 33, "-1"}, {"slt", -1, 0, "1"}, {"sltu", -1, 0, "0"}, {"slt", 1 << 31, 0, "1"},
	} {
		isTold(t, "numbers", main(block(answer(), bin(0, n(c.a), c.op, n(c.b)), show(v(0)))), "print "+c.want+"; return")
		isTold(t, "words that are known", main(block(answer(), set(1, n(c.a)), set(2, n(c.b)), bin(0, v(1), c.op, v(2)), show(v(0)))), "print "+c.want+"; return")
		isTold(t, "a word that is its own", main(block(answer(), set(0, n(c.a)), bin(0, v(0), c.op, n(c.b)), show(v(0)))), "print "+c.want+"; return")
		isTold(t, "a local that is not plain", main(block(answer(), bin(0, n(c.a), c.op, n(c.b)), show(v(0)), load(1, at(0)), show(v(1)))), "v0="+c.want+"; print v0; v1=load v0; print v1; return")
		isTold(t, "one number", main(block(answer(), read(0), bin(0, v(0), c.op, n(c.b)), show(v(0)))), "v0=read; v0=v0 "+c.op+" "+toldOperand(n(c.b))+"; print v0; return")
	}
}

// What an OpSet says is known till the local is set again, wherever an operand stands.
func TestKnownWords(t *testing.T) {
	f := fn("f", []int{1, 1}, 2, 2, block(answer(v(1), v(0))))
	for what, c := range map[string]struct {
		f    api.Mir
		want string
	}{
		"print":               {main(block(answer(), set(0, n(1)), show(v(0)), api.Instr{Op: api.OpPrint, N: 1, A: v(0)})), "print 1; print 1 1; return"},
		"set":                 {main(block(answer(), set(0, n(1)), set(1, v(0)), set(2, v(1)), show(v(2)))), "print 1; return"},
		"bin, on the left":    {main(block(answer(), set(0, n(1)), read(1), bin(2, v(0), "sub", v(1)), show(v(2)))), "v1=read; v2=1 sub v1; print v2; return"},
		"bin, on the right":   {main(block(answer(), set(0, n(1)), read(1), bin(2, v(1), "sub", v(0)), show(v(2)))), "v1=read; v2=v1 sub 1; print v2; return"},
		"store":               {main(block(answer(), set(0, n(1)), alloc(1, 1), store(at(1, held()), v(0)))), "v1=alloc 1; store v1^=1; return"},
		"free":                {main(block(answer(), set(0, n(1)), free(v(0)))), "free 1; return"},
		"args":                {main(block(answer(), set(0, n(1)), set(1, n(2)), calls([]int{2, 3}, "f", v(1), v(0)), show(v(2)), show(v(3)))), "v2,v3=f(2,1); print v2; print v3; return"},
		"a wide number":       {main(block(answer(), set(0, n(1<<32+5)), show(v(0)))), "print 5; return"},
		"not ahead of it":     {main(block(answer(), show(v(0)), set(0, n(1)), show(v(0)))), "print v0; v0=1; print 1; return"},
		"set again":           {main(block(answer(), set(0, n(1)), show(v(0)), set(0, n(2)), show(v(0)))), "print 1; print 2; return"},
		"not known again":     {main(block(answer(), set(0, n(1)), show(v(0)), set(0, v(1)), show(v(0)))), "v0=1; print 1; v0=v1; print v0; return"},
		"read again":          {main(block(answer(), set(0, n(1)), read(0), show(v(0)))), "v0=1; v0=read; print v0; return"},
		"loaded again":        {main(block(answer(), set(0, n(1)), alloc(1, 1), load(0, at(1, held())), show(v(0)))), "v0=1; v1=alloc 1; v0=load v1^; print v0; return"},
		"allocated again":     {main(block(answer(), set(0, n(1)), alloc(0, 1), show(v(0)))), "v0=1; v0=alloc 1; print v0; return"},
		"an address again":    {main(block(answer(), set(0, n(1)), addr(0, at(1)), show(v(0)))), "v0=1; v0=addr v1; print v0; return"},
		"answered again":      {main(block(answer(), set(0, n(1)), set(1, n(2)), calls([]int{1, 0}, "f", v(0), v(1)), show(v(0)), show(v(1)))), "v0=1; v1=2; v1,v0=f(1,2); print v0; print v1; return"},
		"answered twice":      {main(block(answer(), set(0, n(1)), calls([]int{0, 0}, "f", n(3), n(4)), show(v(0)))), "v0=1; v0,v0=f(3,4); print v0; return"},
		"worked out again":    {main(block(answer(), set(0, n(1)), read(1), bin(0, v(0), "add", v(1)), show(v(0)))), "v0=1; v1=read; v0=1 add v1; print v0; return"},
		"an index stays":      {fn("main", []int{1, 4, 1}, 0, 0, block(answer(), set(0, n(1)), load(2, at(1, times(0, 2))), show(v(2)))), "v0=1; v2=load v1[v0*2]; print v2; return"},
		"what is held stays":  {main(block(answer(), alloc(0, 1), set(1, n(1<<12)), store(at(1, held()), n(5)), load(2, at(1, held())), show(v(2)))), "v0=alloc 1; v1=4096; store v1^=5; v2=load v1^; print v2; return"},
		"an address reaches":  {main(block(answer(), set(0, n(1)), addr(1, at(0)), store(at(1, held()), n(7)), show(v(0)))), "v0=1; v1=addr v0; store v1^=7; print v0; return"},
		"an address reached":  {main(block(jump(1), set(0, n(1)), show(v(0))), block(answer()), block(answer(), addr(1, at(0)), show(v(1)))), "print 1; return"},
		"in the next block":   {main(block(branch(v(5), 1, 2), set(0, n(1)), read(5)), block(jump(2), show(n(4))), block(answer(), show(v(0)))), "v0=1; v5=read; if v5 1 2 / print 4; goto 2 / print v0; return"},
		"an end's argument":   {fn("g", []int{1, 1}, 1, 2, block(answer(v(1), v(0)), set(1, n(-1)))), "return -1,v0"},
		"a param":             {fn("g", []int{1}, 1, 1, block(answer(v(0)), show(v(0)), set(0, n(3)))), "print v0; v0=3; return 3"},
		"what is held or not": {fn("g", []int{1}, 0, 0, block(answer(), set(0, n(3)), give(0), show(v(0)), take(0))), "give v0; print 3; take v0; return"},
		"what is let go":      {fn("g", []int{1}, 0, 0, block(answer(), set(0, n(3)), give(0), empty(boxed(u8), 0))), "v0=3; give v0; clear v0; return"},
	} {
		isTold(t, what, c.f, c.want, f)
	}
}

// Words that nobody uses: what makes them goes, but for what may end the run.
func TestUnusedWords(t *testing.T) {
	f := fn("f", []int{1}, 1, 1, block(answer(v(0))))
	for what, c := range map[string]struct {
		f    api.Mir
		want string
	}{
		"set":                          {main(block(answer(), set(0, n(1)), set(1, v(5)))), "return"},
		"bin":                          {main(block(answer(), read(1), bin(0, v(1), "div", n(0)))), "v1=read; return"},
		"addr":                         {main(block(answer(), addr(0, at(1)))), "return"},
		"one of the other":             {main(block(answer(), read(3), bin(0, v(3), "add", n(1)), bin(1, v(0), "mul", v(0)), set(2, v(1)))), "v3=read; return"},
		"its own":                      {main(block(branch(v(1), 0, 1), bin(0, v(0), "add", n(1)), read(1)), block(answer())), "v1=read; if v1 0 1 / return"},
		"load":                         {main(block(answer(), alloc(1, 1), load(0, at(1, held())))), "v1=alloc 1; v0=load v1^; return"},
		"load of nothing":              {main(block(answer(), load(0, at(1, held())))), "v0=load v1^; return"},
		"store":                        {fn("main", []int{2}, 0, 0, block(answer(), store(at(0), n(1)))), "store v0=1; return"},
		"copy":                         {fn("main", []int{2, 2}, 0, 0, block(answer(), move(2, at(0), at(1)), move(0, at(0, step(7)), at(1)))), "copy 2 v0=v1; copy 0 v0+7=v1; return"},
		"alloc":                        {main(block(answer(), alloc(0, 1))), "v0=alloc 1; return"},
		"free":                         {main(block(answer(), alloc(0, 1), free(v(0)))), "v0=alloc 1; free v0; return"},
		"free of nothing":              {main(block(answer(), free(n(0)))), "free 0; return"},
		"print":                        {main(block(answer(), show(n(0)))), "print 0; return"},
		"read":                         {main(block(answer(), read(0), read(1), show(v(1)))), "v0=read; v1=read; print v1; return"},
		"call":                         {main(block(answer(), calls([]int{0}, "f", n(1)))), "v0=f(1); return"},
		"drop":                         {main(block(answer(), drop(u8, at(0, held())))), "drop v0^; return"},
		"not plain":                    {main(block(answer(), set(0, n(1)), bin(1, v(2), "add", n(1)), addr(2, at(3)), load(4, at(0)), load(4, at(1)), load(4, at(2)))), "v0=1; v1=v2 add 1; v2=addr v3; v4=load v0; v4=load v1; v4=load v2; return"},
		"an index uses it":             {fn("main", []int{1, 4, 1}, 0, 0, block(answer(), set(0, n(0)), load(2, at(1, times(0, 1))))), "v0=0; v2=load v1[v0*1]; return"},
		"what it points to uses it":    {main(block(answer(), alloc(0, 1), set(1, v(0)), store(at(1, held()), n(2)))), "v0=alloc 1; v1=v0; store v1^=2; return"},
		"an end uses it":               {fn("g", []int{1, 1}, 0, 1, block(answer(v(1)), read(0), set(1, v(0)))), "v0=read; v1=v0; return v1"},
		"an argument uses it":          {main(block(answer(), read(0), set(1, v(0)), calls([]int{2}, "f", v(1)))), "v0=read; v1=v0; v2=f(v1); return"},
		"a block that is gone used it": {main(block(answer(), read(0), set(1, v(0)), addr(2, at(3))), block(answer(), show(v(1)), show(v(2)))), "v0=read; return"},
		"an end that asks nothing":     {main(block(branch(v(1), 1, 1), read(0), bin(1, v(0), "slt", n(7))), block(answer())), "v0=read; return"},
		"params":                       {fn("g", []int{1, 2, 0, 1}, 4, 0, block(answer(), set(0, n(1)), set(3, v(0)))), "return"},
		"held, but not used":           {fn("g", []int{1}, 0, 0, block(answer(), set(0, n(1)), give(0), take(0))), "give v0; take v0; return"},
		// An address that uses words on its way ends the run where one of these may not be used.
		"addr through a scalar":            {main(block(answer(), addr(0, at(1, held())), addr(0, at(1, held(), step(3), times(2, 4))))), "return"},
		"addr through its own word":        {main(block(answer(), addr(0, at(0, held(), step(1))))), "return"},
		"addr through the first of two":    {fn("main", []int{1, 2}, 0, 0, block(answer(), addr(0, at(1, held())), addr(0, at(1, step(1), held())), addr(0, at(1, step(0), step(1), held(), step(9))))), "return"},
		"addr through no word":             {fn("main", []int{1, 0}, 0, 0, block(answer(), addr(0, at(1, held())))), "v0=load v1; return"},
		"addr beyond a local's words":      {fn("main", []int{1, 2}, 0, 0, block(answer(), addr(0, at(1, step(1), step(1), held(), step(3))))), "v0=load v1+1+1; return"},
		"addr through a word of any":       {fn("main", []int{1, 2, 1}, 0, 0, block(answer(), read(2), addr(0, at(1, times(2, 1), held())))), "v2=read; v0=load v1[v2*1]; return"},
		"addr through what is pointed to":  {main(block(answer(), addr(0, at(1, held(), held())))), "v0=load v1^; return"},
		"addr through what is that, on":    {main(block(answer(), alloc(1, 2), read(2), addr(0, at(1, held(), step(1), held(), times(2, 5), step(1))))), "v1=alloc 2; v2=read; v0=load v1^+1; return"},
		"addr, its index is not used then": {main(block(answer(), alloc(1, 2), set(2, v(5)), addr(0, at(1, held(), held(), times(2, 5))))), "v1=alloc 2; v0=load v1^; return"},
		"addr, its index still is":         {main(block(answer(), alloc(1, 2), set(2, v(5)), addr(0, at(1, held(), times(2, 1), held())))), "v1=alloc 2; v2=v5; v0=load v1^[v2*1]; return"},
		"addr on its way uses itself":      {main(block(answer(), alloc(1, 2), addr(0, at(1, held(), times(0, 1), held())))), "v1=alloc 2; v0=addr v1^[v0*1]^; return"},
		"addr of itself":                   {main(block(answer(), addr(0, at(0)), addr(0, at(0, step(1))), set(0, n(3)))), "return"},
		"addr at its end uses itself":      {main(block(answer(), alloc(1, 2), addr(0, at(1, held(), held(), times(0, 1))))), "v1=alloc 2; v0=load v1^; return"},
	} {
		isTold(t, what, c.f, c.want, f)
	}
	// Nobody uses their words, but the runs end by them.
	comes(t, "load", api.OutTrap, 0, nil, nil, starts([]int{1, 1}, load(0, at(1, held())), show(n(1))))
	comes(t, "store", api.OutTrap, 0, nil, nil, starts([]int{1, 1}, store(at(1, held()), n(1)), show(n(1))))
	comes(t, "copy", api.OutTrap, 0, nil, nil, starts([]int{1, 1}, move(0, at(1, held(), held()), at(0)), show(n(1))))
	comes(t, "addr", api.OutTrap, 0, nil, nil, starts([]int{1, 1}, addr(0, at(1, held(), held())), show(n(1))))
	comes(t, "addr of no word", api.OutTrap, 0, nil, nil, starts([]int{1, 0}, addr(0, at(1, held())), show(n(1))))
	comes(t, "addr of what is there", api.OutExit, 0, []int{1}, nil, starts([]int{1, 1}, alloc(1, 1), addr(0, at(1, held(), held())), show(n(1))))
	comes(t, "alloc", api.OutMemory, 0, nil, nil, fn("main", []int{1}, 0, 0, block(jump(0), alloc(0, 1))))
	comes(t, "free", api.OutTrap, 0, nil, nil, starts([]int{1}, set(0, n(4)), free(v(0)), show(n(1))))
	comes(t, "read", api.OutExit, 0, []int{8}, []int{7, 8}, starts([]int{1, 1}, read(0), read(1), show(v(1))))
	comes(t, "call", api.OutDepth, 0, nil, nil, starts([]int{1}, calls([]int{0}, "g"), show(n(1))), fn("g", []int{1}, 0, 1, block(answer(n(1)), calls([]int{0}, "g"))))
	comes(t, "drop", api.OutTrap, 0, nil, nil, starts([]int{1}, set(0, n(1)), drop(boxed(u8), at(0)), show(n(1))))
}

// Blocks, and where they go.
func TestBlocks(t *testing.T) {
	one, two, three := show(n(1)), show(n(2)), show(n(3))
	for what, c := range map[string]struct {
		f    api.Mir
		want string
	}{
		"one after the other":             {main(block(jump(1), one), block(jump(2), two), block(answer(), three)), "print 1; print 2; print 3; return"},
		"backwards":                       {main(block(jump(3), one), block(fail(), three), block(jump(1), two), block(jump(2))), "print 1; print 2; print 3; panic"},
		"nothing comes to them":           {main(block(answer(), one), block(jump(2), two), block(jump(1)), block(jump(3)), block(jump(0), three)), "print 1; return"},
		"itself":                          {main(block(jump(0))), "goto 0"},
		"itself, with something":          {main(block(jump(0), one)), "print 1; goto 0"},
		"itself, further on":              {main(block(jump(1), one), block(jump(1))), "print 1; goto 1 / goto 1"},
		"a circle":                        {main(block(jump(1), one), block(jump(2), two), block(jump(1), three)), "print 1; goto 1 / print 2; print 3; goto 1"},
		"a circle of the first one":       {main(block(jump(1), one), block(jump(2), two), block(jump(0), three)), "print 1; print 2; print 3; goto 0"},
		"a circle of nothing":             {main(block(jump(1), one), block(jump(2)), block(jump(3)), block(jump(1))), "print 1; goto 1 / goto 1"},
		"a circle of nothing, the first":  {main(block(jump(1)), block(jump(2)), block(jump(0))), "goto 0"},
		"a way into it":                   {main(block(branch(v(0), 3, 2), read(0)), block(jump(2)), block(jump(3)), block(jump(1)), block(answer())), "v0=read; goto 1 / goto 1"},
		"two circles of nothing":          {main(block(branch(v(0), 1, 3), read(0)), block(jump(2)), block(jump(1)), block(jump(4)), block(jump(3))), "v0=read; if v0 1 2 / goto 1 / goto 2"},
		"past what does nothing":          {main(block(branch(v(0), 1, 4), read(0)), block(jump(2)), block(jump(3)), block(branch(v(0), 1, 4), one, read(0)), block(answer(), two)), "v0=read; if v0 1 2 / print 1; v0=read; if v0 1 2 / print 2; return"},
		"to one block alone":              {main(block(branch(v(0), 1, 1), read(0)), block(answer(), one)), "v0=read; print 1; return"},
		"to one block alone, past others": {main(block(branch(v(0), 1, 2), read(0)), block(jump(3)), block(jump(4)), block(jump(4)), block(answer(), one)), "v0=read; print 1; return"},
		"to itself alone":                 {main(block(branch(v(0), 0, 0), read(0))), "v0=read; goto 0"},
		"the first one goes on":           {main(block(jump(1)), block(branch(v(0), 1, 2), read(0)), block(answer())), "goto 1 / v0=read; if v0 1 2 / return"},
		"past the first one":              {main(block(jump(1)), block(branch(v(0), 0, 2), read(0)), block(answer())), "v0=read; if v0 0 1 / return"},
		"to the first one":                {main(block(branch(v(0), 1, 2), read(0)), block(jump(0), one), block(answer())), "v0=read; if v0 1 2 / print 1; goto 0 / return"},
		"to the first one, at once":       {main(block(branch(v(0), 1, 2), read(0)), block(jump(0)), block(answer())), "v0=read; if v0 0 1 / return"},
		"decided":                         {main(block(branch(n(1), 1, 2)), block(answer(), one), block(answer(), two)), "print 1; return"},
		"decided, otherwise":              {main(block(branch(n(0), 1, 2)), block(answer(), one), block(answer(), two)), "print 2; return"},
		"decided below 0":                 {main(block(branch(n(-1), 1, 2)), block(answer(), one), block(answer(), two)), "print 1; return"},
		"decided by a word":               {main(block(branch(n(1<<32), 1, 2)), block(answer(), one), block(answer(), two)), "print 2; return"},
		"decided by a wide word":          {main(block(branch(n(1<<32+1), 1, 2)), block(answer(), one), block(answer(), two)), "print 1; return"},
		"decided by a known word":         {main(block(branch(v(0), 1, 2), set(0, n(5)), bin(0, v(0), "slt", n(3))), block(answer(), one), block(answer(), two)), "print 2; return"},
		"not decided":                     {main(block(branch(v(0), 1, 2), set(0, n(5)), read(0)), block(answer(), one), block(answer(), two)), "v0=5; v0=read; if v0 1 2 / print 1; return / print 2; return"},
		"decided behind another one":      {main(block(branch(v(0), 1, 2), set(0, n(1))), block(branch(v(1), 3, 4), bin(1, v(0), "sub", n(1))), block(jump(1)), block(answer(), one), block(branch(v(1), 3, 5)), block(answer(), two)), "print 2; return"},
		"decided behind two that meet":    {main(block(branch(n(1), 1, 2)), block(jump(3), set(0, n(7))), block(jump(3), set(0, n(8))), block(branch(v(0), 4, 5)), block(answer(), one), block(answer(), two)), "print 1; return"},
		"not behind two that meet":        {main(block(branch(v(1), 1, 2), read(1)), block(jump(3), set(0, n(7))), block(jump(3), set(0, n(8))), block(branch(v(0), 4, 5)), block(answer(), one), block(answer(), two)), "v1=read; if v1 1 2 / v0=7; goto 3 / v0=8; goto 3 / if v0 4 5 / print 1; return / print 2; return"},
		"a circle is left at once":        {main(block(branch(v(0), 2, 1), set(0, n(1))), block(branch(n(1), 0, 1), two), block(answer(), one)), "print 1; return"},
		"set in a circle":                 {main(block(jump(1), set(0, n(3))), block(branch(v(0), 1, 2), bin(0, v(0), "sub", n(1)), show(v(0))), block(answer())), "v0=3; goto 1 / v0=v0 sub 1; print v0; if v0 1 2 / return"},
		"set in a circle, and known":      {main(block(jump(1)), block(branch(v(1), 1, 2), set(0, n(3)), show(v(0)), read(1)), block(answer(), show(v(0)))), "goto 1 / v0=3; print 3; v1=read; if v1 1 2 / print v0; return"},
		"ifs in one another":              {main(block(branch(v(0), 1, 2), read(0)), block(branch(v(1), 3, 4), bin(1, v(0), "slt", n(3))), block(jump(5)), block(jump(5), set(2, v(1))), block(jump(5), set(2, n(8))), block(answer())), "v0=read; return"},
	} {
		isTold(t, what, c.f, c.want)
	}
}

// What becomes plain behind a fold is then folded, too.
func TestPlainThen(t *testing.T) {
	isTold(t, "an address that nobody uses", main(block(answer(), set(0, n(1)), addr(1, at(0)), show(v(0)))), "print 1; return")
	isTold(t, "an address of an address", main(block(answer(), set(0, n(1)), addr(1, at(0)), addr(2, at(1)), addr(3, at(2)), show(v(0)))), "print 1; return")
	isTold(t, "an address of its own that is used", main(block(answer(), addr(0, at(0)), load(1, at(0, held())), show(v(1)))), "v0=addr v0; v1=load v0^; print v1; return")
	isTold(t, "an address where nothing comes to", main(block(branch(v(0), 1, 2), set(0, n(1))), block(answer(), show(v(0))), block(jump(1), addr(1, at(0)), store(at(1, held()), n(0)))), "v0=1; if v0 1 2 / print v0; return / v1=addr v0; store v1^=0; goto 1")
	isTold(t, "an address behind what is decided", main(block(branch(v(2), 1, 2), set(0, n(1)), set(2, n(1))), block(answer(), show(v(0))), block(jump(1), addr(1, at(0)), store(at(1, held()), n(0)))), "print 1; return")
}
