package serial_test

import (
	"math"
	"math/big"
	"slices"
	"testing"

	"trunkline/api"
	"trunkline/serial"
)

// widths are the bits that a number may have.
var widths = []int{16, 32}

// noWidths are bits that it may not have.
var noWidths = []int{math.MinInt, -32, -16, -1, 0, 1, 8, 15, 17, 24, 31, 33, 48, 64, 16 + 1<<32, 32 + 1<<32, math.MaxInt}

// round is M.
func round(bits int) int64 { return 1 << bits }

// draws is a row of numbers that look like chance and are the same each time.
func draws(seed uint64) func() uint64 {
	return func() uint64 {
		seed += 0x9e3779b97f4a7c15
		z := (seed ^ seed>>30) * 0xbf58476d1ce4e5b9
		z = (z ^ z>>27) * 0x94d049bb133111eb
		return z ^ z>>31
	}
}

// drawNumber is a number of so many bits, often one of those at which something turns.
func drawNumber(draw func() uint64, bits int) uint32 {
	most := uint32(round(bits) - 1)
	near := uint32(draw()%5) - 2
	switch draw() % 4 {
	case 0:
		return near & most
	case 1:
		return (most/2 + near) & most
	}
	return uint32(draw()) & most
}

// drawStep is a number that may be added: a small one, one at the turn, one of any size.
func drawStep(draw func() uint64, bits int) int {
	near := int(draw()%7) - 3
	switch draw() % 4 {
	case 0:
		return near
	case 1:
		return int(round(bits))/2 + near
	case 2:
		return -int(round(bits)) + near
	}
	return int(draw())
}

// add is the model of Add, in numbers that have no end.
func add(bits int, a uint32, n int) uint32 {
	sum := new(big.Int).Add(big.NewInt(int64(a)), big.NewInt(int64(n)))
	return uint32(sum.Mod(sum, big.NewInt(round(bits))).Uint64())
}

// mustAdd is Add where it has no error.
func mustAdd(t *testing.T, bits int, a uint32, n int) uint32 {
	t.Helper()
	x, e := serial.Add(bits, a, n)
	if e != api.OK {
		t.Fatalf("Add(%d, %x, %d): error %d", bits, a, n, e)
	}
	return x
}

func mustAhead(t *testing.T, bits int, a, b uint32) int {
	t.Helper()
	n, e := serial.Ahead(bits, a, b)
	if e != api.OK {
		t.Fatalf("Ahead(%d, %x, %x): error %d", bits, a, b, e)
	}
	return n
}

func mustLess(t *testing.T, bits int, a, b uint32) bool {
	t.Helper()
	less, e := serial.Less(bits, a, b)
	if e != api.OK {
		t.Fatalf("Less(%d, %x, %x): error %d", bits, a, b, e)
	}
	return less
}

// P3.1, Add: ordinary sums, and those over the turn, both ways.
func TestAdd(t *testing.T) {
	for _, c := range []struct {
		bits int
		a    uint32
		n    int
		want uint32
	}{
		{16, 5, 0, 5},
		{16, 5, 4, 9},
		{16, 5, -4, 1},
		{16, 5, -5, 0},
		{16, 5, -6, 0xffff},
		{16, 0xffff, 0, 0xffff},
		{16, 0xffff, 1, 0},
		{16, 0xffff, 2, 1},
		{16, 0, -1, 0xffff},
		{16, 7, 1 << 16, 7},
		{16, 7, -1 << 16, 7},
		{16, 7, 1<<16 + 3, 10},
		{16, 7, 1<<40 + 3, 10},
		{16, 0, 1 << 15, 1 << 15},
		{16, 1, math.MaxInt, 0},
		{16, 0, math.MaxInt, 0xffff},
		{16, 9, math.MinInt, 9},
		{16, 0, math.MinInt + 1, 1},
		{32, 5, 4, 9},
		{32, 1, -3, 0xfffffffe},
		{32, 0xffff, 1, 0x10000},
		{32, 0xffffffff, 1, 0},
		{32, 0xffffffff, 0, 0xffffffff},
		{32, 0, -1, 0xffffffff},
		{32, 7, 1 << 32, 7},
		{32, 7, -1<<32 - 8, 0xffffffff},
		{32, 0, 1 << 31, 1 << 31},
		{32, 0, -1 << 31, 1 << 31},
		{32, 1, math.MaxInt, 0},
		{32, 9, math.MinInt, 9},
	} {
		if got, e := serial.Add(c.bits, c.a, c.n); got != c.want || e != api.OK {
			t.Errorf("Add(%d, %x, %d): %x, error %d; want %x", c.bits, c.a, c.n, got, e, c.want)
		}
	}
}

// P3.1, Add: n of any size, held against numbers that have no end.
func TestAddOfAnySize(t *testing.T) {
	draw := draws(31)
	for _, bits := range widths {
		for range 5000 {
			a, n := drawNumber(draw, bits), drawStep(draw, bits)
			if got, want := mustAdd(t, bits, a, n), add(bits, a, n); got != want {
				t.Fatalf("Add(%d, %x, %d): %x; want %x", bits, a, n, got, want)
			}
		}
	}
}

// P3.1, Ahead and Less: the same number, its neighbours, and those about M/2 apart.
func TestAheadAndLess(t *testing.T) {
	for _, c := range []struct {
		bits int
		a, b uint32
		n    int
	}{
		{16, 0, 0, 0},
		{16, 0xffff, 0xffff, 0},
		{16, 0xffff, 0, 1},
		{16, 0, 0xffff, -1},
		{16, 3, 10, 7},
		{16, 10, 3, -7},
		{16, 0, 0x7fff, 0x7fff},
		{16, 0, 0x8000, -0x8000},
		{16, 0, 0x8001, -0x7fff},
		{16, 0x8000, 0, -0x8000},
		{16, 0x7fff, 0, -0x7fff},
		{16, 0x8001, 0, 0x7fff},
		{16, 0xfff0, 0x7fef, 0x7fff},
		{16, 0xfff0, 0x7ff0, -0x8000},
		{32, 0, 0, 0},
		{32, 0xffffffff, 0, 1},
		{32, 0, 0xffffffff, -1},
		{32, 0xffff, 0, -0xffff},
		{32, 0, 0xffff, 0xffff},
		{32, 0, 0x8000, 0x8000},
		{32, 0, 0x7fffffff, 0x7fffffff},
		{32, 0, 0x80000000, -1 << 31},
		{32, 0, 0x80000001, -0x7fffffff},
		{32, 0x80000000, 0, -1 << 31},
		{32, 0xfffffff0, 3, 19},
		{32, 3, 0xfffffff0, -19},
	} {
		if n, e := serial.Ahead(c.bits, c.a, c.b); n != c.n || e != api.OK {
			t.Errorf("Ahead(%d, %x, %x): %d, error %d; want %d", c.bits, c.a, c.b, n, e, c.n)
		}
		if less, e := serial.Less(c.bits, c.a, c.b); less != (c.n > 0) || e != api.OK {
			t.Errorf("Less(%d, %x, %x): %t, error %d", c.bits, c.a, c.b, less, e)
		}
	}
}

// P3.1: Ahead is from -M/2 to M/2 - 1, and Add of it leads from the one to the other.
func TestAheadIsTheWayBetween(t *testing.T) {
	draw := draws(32)
	for _, bits := range widths {
		half := int(round(bits) / 2)
		for range 5000 {
			a, b := drawNumber(draw, bits), drawNumber(draw, bits)
			n := mustAhead(t, bits, a, b)
			if n < -half || n >= half || add(bits, a, n) != b {
				t.Fatalf("Ahead(%d, %x, %x): %d", bits, a, b, n)
			}
			if less := mustLess(t, bits, a, b); less != (n > 0) {
				t.Fatalf("Less(%d, %x, %x): %t, ahead by %d", bits, a, b, less, n)
			}
		}
	}
}

// P3.1, all pairs of which one is 0 or near the turn, of 16 bits.
func TestAheadOfAllNumbers(t *testing.T) {
	for _, a := range []uint32{0, 1, 0x7fff, 0x8000, 0xffff} {
		for n := -0x8000; n < 0x8000; n++ {
			b := uint32(uint16(a) + uint16(n))
			if got := mustAhead(t, 16, a, b); got != n {
				t.Fatalf("Ahead(16, %x, %x): %d; want %d", a, b, got, n)
			}
		}
	}
}

// wantErrors holds what each call answers for bits and three numbers against an error, beside which all else is zero.
func wantErrors(t *testing.T, bits int, a, b, x uint32, want api.Errno) {
	t.Helper()
	if n, e := serial.Ahead(bits, a, b); n != 0 || e != want {
		t.Errorf("Ahead(%d, %x, %x): %d, error %d; want %d", bits, a, b, n, e, want)
	}
	if less, e := serial.Less(bits, a, b); less || e != want {
		t.Errorf("Less(%d, %x, %x): %t, error %d; want %d", bits, a, b, less, e, want)
	}
	if l, e := serial.Sort(bits, a, []uint32{1, b, x}); len(l) != 0 || e != want {
		t.Errorf("Sort(%d, %x, [1 %x %x]): %x, error %d; want %d", bits, a, b, x, l, e, want)
	}
	if l, e := serial.Span(bits, []uint32{1, a, b, x}); len(l) != 0 || e != want {
		t.Errorf("Span(%d, [1 %x %x %x]): %x, error %d; want %d", bits, a, b, x, l, e, want)
	}
}

// P3.1, P3.2: bits of other widths, also where the numbers are too great.
func TestBits(t *testing.T) {
	for _, bits := range noWidths {
		for _, a := range []uint32{0, 1, 0xffff, 0x10000, math.MaxUint32} {
			for _, n := range []int{0, 1, math.MinInt, math.MaxInt} {
				if x, e := serial.Add(bits, a, n); x != 0 || e != api.ErrArg {
					t.Errorf("Add(%d, %x, %d): %x, error %d", bits, a, n, x, e)
				}
			}
			wantErrors(t, bits, a, 1, 2, api.ErrArg)
			wantErrors(t, bits, 1, a, 2, api.ErrArg)
		}
		if l, e := serial.Sort(bits, 0, nil); len(l) != 0 || e != api.ErrArg {
			t.Errorf("Sort(%d) of nil: %x, error %d", bits, l, e)
		}
		if l, e := serial.Span(bits, nil); len(l) != 0 || e != api.ErrArg {
			t.Errorf("Span(%d) of nil: %x, error %d", bits, l, e)
		}
		if l, e := serial.Span(bits, make([]uint32, api.MaxRow+1)); len(l) != 0 || e != api.ErrArg {
			t.Errorf("Span(%d) of too many: %x, error %d", bits, l, e)
		}
	}
}

// P3.1, P3.2: M - 1 is a number, M and more are none.
func TestNumbersThatAreTooGreat(t *testing.T) {
	for _, great := range []uint32{1 << 16, 1<<16 + 1, 1 << 17, 1 << 31, math.MaxUint32} {
		for _, n := range []int{0, -1, -1 << 16, math.MinInt, math.MaxInt} {
			if x, e := serial.Add(16, great, n); x != 0 || e != api.ErrLimit {
				t.Errorf("Add(16, %x, %d): %x, error %d", great, n, x, e)
			}
		}
		wantErrors(t, 16, great, 1, 2, api.ErrLimit)
		wantErrors(t, 16, 1, great, 2, api.ErrLimit)
		wantErrors(t, 16, great, great, great, api.ErrLimit)
		for at := range 3 {
			l := []uint32{4, 5, 6}
			l[at] = great
			if got, e := serial.Sort(16, 0, l); len(got) != 0 || e != api.ErrLimit {
				t.Errorf("Sort of %x: %x, error %d", l, got, e)
			}
			if got, e := serial.Span(16, l); len(got) != 0 || e != api.ErrLimit {
				t.Errorf("Span of %x: %x, error %d", l, got, e)
			}
		}
		if got, e := serial.Sort(16, great, nil); len(got) != 0 || e != api.ErrLimit {
			t.Errorf("Sort of nil from %x: %x, error %d", great, got, e)
		}
		if got := mustAdd(t, 32, great, 0); got != great {
			t.Errorf("Add(32, %x, 0): %x", great, got)
		}
	}
	for _, bits := range widths {
		most := uint32(round(bits) - 1)
		if got := mustAdd(t, bits, most, 0); got != most {
			t.Errorf("Add(%d, M - 1, 0): %x", bits, got)
		}
		if n := mustAhead(t, bits, most, most); n != 0 {
			t.Errorf("Ahead(%d, M - 1, M - 1): %d", bits, n)
		}
		if l, e := serial.Sort(bits, most, []uint32{0, most}); e != api.OK || !slices.Equal(l, []uint32{most, 0}) {
			t.Errorf("Sort from M - 1: %x, error %d", l, e)
		}
		if l, e := serial.Span(bits, []uint32{most}); e != api.OK || !slices.Equal(l, [][2]uint32{{most, most}}) {
			t.Errorf("Span of M - 1: %x, error %d", l, e)
		}
	}
}

// P3.2, Sort: doubles, and lists that go over the turn.
func TestSort(t *testing.T) {
	for _, c := range []struct {
		name string
		bits int
		from uint32
		l    []uint32
		want []uint32
	}{
		{"the example", 16, 5, []uint32{3, 9, 3, 7}, []uint32{7, 9, 3}},
		{"nil", 16, 5, nil, nil},
		{"none", 32, 5, []uint32{}, nil},
		{"one", 16, 5, []uint32{5}, []uint32{5}},
		{"from stands first", 16, 5, []uint32{6, 5, 4}, []uint32{5, 6, 4}},
		{"the one ahead of from is the last", 16, 5, []uint32{4, 0xffff, 0, 6}, []uint32{6, 0xffff, 0, 4}},
		{"all the same", 32, 0, []uint32{8, 8, 8, 8}, []uint32{8}},
		{"as they stand", 32, 1, []uint32{1, 2, 3}, []uint32{1, 2, 3}},
		{"turned", 32, 1, []uint32{3, 2, 1}, []uint32{1, 2, 3}},
		{"over the turn", 32, 0xfffffffe, []uint32{1, 0xffffffff, 1, 0xfffffffe}, []uint32{0xfffffffe, 0xffffffff, 1}},
		{"over the turn of 16 bits", 16, 0xfffe, []uint32{0, 0xfffd, 0xffff, 0xfffe}, []uint32{0xfffe, 0xffff, 0, 0xfffd}},
		{"from 0, numbers go up", 32, 0, []uint32{0x80000000, 0xffffffff, 0, 0x7fffffff}, []uint32{0, 0x7fffffff, 0x80000000, 0xffffffff}},
		{"more than half round", 16, 1, []uint32{0, 0x8000, 0x8001, 0x8002, 2}, []uint32{2, 0x8000, 0x8001, 0x8002, 0}},
	} {
		got, e := serial.Sort(c.bits, c.from, c.l)
		if e != api.OK || !slices.Equal(got, c.want) {
			t.Errorf("%s: %x, error %d; want %x", c.name, got, e, c.want)
		}
	}
}

// P3.2, Sort has no limit of its own: more than MaxRow numbers, all of 16 bits.
func TestSortOfMany(t *testing.T) {
	var l []uint32
	for i := range uint32(1 << 16) {
		l = append(l, i*40503&0xffff, i)
	}
	got, e := serial.Sort(16, 0x1234, l)
	if e != api.OK || len(got) != 1<<16 {
		t.Fatalf("%d numbers, error %d", len(got), e)
	}
	for i, x := range got {
		if x != uint32(0x1234+i)&0xffff {
			t.Fatalf("at %d stands %x", i, x)
		}
	}
}

// drawList is a list with doubles and neighbours.
func drawList(draw func() uint64, bits, size int) []uint32 {
	l := make([]uint32, size)
	for i := range l {
		switch {
		case i > 0 && draw()%2 == 0:
			l[i] = add(bits, l[i-1], int(draw()%3))
		case i > 0 && draw()%3 == 0:
			l[i] = l[draw()%uint64(i)]
		default:
			l[i] = drawNumber(draw, bits)
		}
	}
	return l
}

// P3.6: Sort's numbers are those of l, each once, none goes back, and sorted again they stay.
func TestSortedNumbers(t *testing.T) {
	draw := draws(33)
	for range 2000 {
		bits := widths[draw()%2]
		from, l := drawNumber(draw, bits), drawList(draw, bits, int(draw()%30))
		got, e := serial.Sort(bits, from, l)
		if e != api.OK {
			t.Fatalf("Sort(%d, %x, %x): error %d", bits, from, l, e)
		}
		for _, x := range l {
			if !slices.Contains(got, x) {
				t.Fatalf("Sort(%d, %x, %x): %x, without %x", bits, from, l, got, x)
			}
		}
		behind := int64(-1)
		for _, x := range got {
			way := (int64(x) - int64(from) + round(bits)) % round(bits)
			if way <= behind || !slices.Contains(l, x) {
				t.Fatalf("Sort(%d, %x, %x): %x, at %x", bits, from, l, got, x)
			}
			behind = way
		}
		again, e := serial.Sort(bits, from, got)
		if e != api.OK || !slices.Equal(again, got) {
			t.Fatalf("Sort(%d, %x, %x): sorted again %x, error %d", bits, from, got, again, e)
		}
	}
}

// P3.2, Span: runs in their order, over the turn, with doubles.
func TestSpan(t *testing.T) {
	for _, c := range []struct {
		name string
		bits int
		l    []uint32
		want [][2]uint32
	}{
		{"the example", 32, []uint32{4, 5, 7, 0xffffffff, 0}, [][2]uint32{{4, 5}, {7, 7}, {0xffffffff, 0}}},
		{"nil", 16, nil, nil},
		{"none", 32, []uint32{}, nil},
		{"one", 16, []uint32{9}, [][2]uint32{{9, 9}}},
		{"over the turn", 16, []uint32{0xffff, 0, 1, 3}, [][2]uint32{{0xffff, 1}, {3, 3}}},
		{"no turn of 32 bits", 32, []uint32{0xffff, 0, 1, 3}, [][2]uint32{{0xffff, 0xffff}, {0, 1}, {3, 3}}},
		{"no turn at all", 32, []uint32{0xfffe, 0xffff, 0x10000}, [][2]uint32{{0xfffe, 0x10000}}},
		{"doubles", 16, []uint32{5, 5, 6, 6, 7}, [][2]uint32{{5, 5}, {5, 6}, {6, 7}}},
		{"down", 16, []uint32{3, 2, 1, 0, 0xffff}, [][2]uint32{{3, 3}, {2, 2}, {1, 1}, {0, 0}, {0xffff, 0xffff}}},
		{"not in the order of numbers", 32, []uint32{8, 9, 2, 3, 10}, [][2]uint32{{8, 9}, {2, 3}, {10, 10}}},
		{"the same run twice", 32, []uint32{1, 2, 1, 2}, [][2]uint32{{1, 2}, {1, 2}}},
	} {
		got, e := serial.Span(c.bits, c.l)
		if e != api.OK || !slices.Equal(got, c.want) {
			t.Errorf("%s: %x, error %d; want %x", c.name, got, e, c.want)
		}
	}
}

// rising are n numbers from first on.
func rising(bits int, first uint32, n int) []uint32 {
	l := make([]uint32, n)
	for i := range l {
		l[i] = add(bits, first, i)
	}
	return l
}

// P3.2, Span: MaxRow numbers and one more, in one run and in many.
func TestSpanOfMany(t *testing.T) {
	for _, bits := range widths {
		l := rising(bits, 0xff80, api.MaxRow)
		want := [][2]uint32{{0xff80, add(bits, 0xff80, api.MaxRow-1)}}
		if got, e := serial.Span(bits, l); e != api.OK || !slices.Equal(got, want) {
			t.Errorf("MaxRow numbers: %x, error %d; want %x", got, e, want)
		}
		same := make([]uint32, api.MaxRow)
		if got, e := serial.Span(bits, same); e != api.OK || len(got) != api.MaxRow {
			t.Errorf("MaxRow times 0: %d runs, error %d", len(got), e)
		}
		for _, more := range [][]uint32{rising(bits, 0xff80, api.MaxRow+1), make([]uint32, api.MaxRow+1), make([]uint32, 1<<17)} {
			if got, e := serial.Span(bits, more); len(got) != 0 || e != api.ErrLimit {
				t.Errorf("%d numbers: %x, error %d", len(more), got, e)
			}
		}
	}
}

// P3.7: the runs laid one behind the other are l; P3.2: no two of them could be one.
func TestRunsLaidOneBehindTheOther(t *testing.T) {
	draw := draws(34)
	for range 2000 {
		bits := widths[draw()%2]
		l := drawList(draw, bits, int(draw()%40))
		runs, e := serial.Span(bits, l)
		if e != api.OK {
			t.Fatalf("Span(%d, %x): error %d", bits, l, e)
		}
		var laid []uint32
		for i, run := range runs {
			if i > 0 && add(bits, runs[i-1][1], 1) == run[0] {
				t.Fatalf("Span(%d, %x): %x, of which two are one", bits, l, runs)
			}
			long := int((int64(run[1])-int64(run[0])+round(bits))%round(bits)) + 1
			if long > len(l) {
				t.Fatalf("Span(%d, %x): %x", bits, l, runs)
			}
			laid = append(laid, rising(bits, run[0], long)...)
		}
		if !slices.Equal(laid, l) {
			t.Fatalf("Span(%d, %x): %x, which is %x", bits, l, runs, laid)
		}
	}
}

// P3.3: Add of Add is Add of both, and Ahead of it is what was added.
func TestAddOfAdd(t *testing.T) {
	draw := draws(35)
	for range 5000 {
		bits := widths[draw()%2]
		a := drawNumber(draw, bits)
		m, n := drawStep(draw, bits)/2, drawStep(draw, bits)/2
		if got, want := mustAdd(t, bits, mustAdd(t, bits, a, m), n), mustAdd(t, bits, a, m+n); got != want {
			t.Fatalf("%d bits: %x and %d and %d: %x; want %x", bits, a, m, n, got, want)
		}
		half := int(round(bits) / 2)
		for _, step := range []int{-half, 1 - half, -1, 0, 1, half - 1, int(draw()%uint64(2*half)) - half} {
			if got := mustAhead(t, bits, a, mustAdd(t, bits, a, step)); got != step {
				t.Fatalf("%d bits: %x is ahead of itself and %d by %d", bits, a, step, got)
			}
		}
		for _, step := range []int{half, -half - 1} {
			if got := mustAhead(t, bits, a, mustAdd(t, bits, a, step)); got == step {
				t.Fatalf("%d bits: %x is ahead by %d", bits, a, got)
			}
		}
	}
}

// P3.4: of two numbers just one is Less, but none where they are the same or M/2 apart.
func TestJustOneIsLess(t *testing.T) {
	draw := draws(36)
	for range 5000 {
		bits := widths[draw()%2]
		half := int(round(bits) / 2)
		a := drawNumber(draw, bits)
		for _, step := range []int{0, 1, half - 1, half, half + 1, 2*half - 1, int(draw() >> 1)} {
			b := add(bits, a, step)
			alike := a == b || add(bits, a, half) == b
			ahead, behind := mustLess(t, bits, a, b), mustLess(t, bits, b, a)
			if alike && (ahead || behind) || !alike && ahead == behind {
				t.Fatalf("%d bits, %x and %x: %t and %t", bits, a, b, ahead, behind)
			}
		}
	}
}

// P3.5: Less is not changed, if both go on by as much.
func TestLessGoesOn(t *testing.T) {
	draw := draws(37)
	for range 5000 {
		bits := widths[draw()%2]
		a, b, n := drawNumber(draw, bits), drawNumber(draw, bits), drawStep(draw, bits)
		if mustLess(t, bits, a, b) != mustLess(t, bits, mustAdd(t, bits, a, n), mustAdd(t, bits, b, n)) {
			t.Fatalf("%d bits: %x and %x, both on by %d", bits, a, b, n)
		}
	}
}

// P3: what is handed in stays as it is, its spare room too, and what is answered is new memory.
func TestAnswersAreNewMemory(t *testing.T) {
	as := []uint32{3, 9, 3, 7, 8, 0xee1, 0xee2, 0xee3}
	for _, bits := range widths {
		room := slices.Clone(as)
		sorted, e := serial.Sort(bits, 5, room[:5])
		runs, f := serial.Span(bits, room[:5])
		if e != api.OK || f != api.OK || !slices.Equal(room, as) {
			t.Fatalf("errors %d and %d, what was handed in became %x", e, f, room)
		}
		already := rising(bits, 5, 4) // nothing to be sorted: the answer is new all the same
		other, _ := serial.Sort(bits, 5, already)
		clear(other[:cap(other)])
		if !slices.Equal(already, rising(bits, 5, 4)) {
			t.Error("Sort: the answer lies in what was handed in")
		}
		again, _ := serial.Sort(bits, 5, room[:5])
		clear(again[:cap(again)])
		more, _ := serial.Span(bits, room[:5])
		clear(more[:cap(more)])
		clear(room)
		if !slices.Equal(sorted, []uint32{7, 8, 9, 3}) {
			t.Errorf("Sort: the answer became %x", sorted)
		}
		if !slices.Equal(runs, [][2]uint32{{3, 3}, {9, 9}, {3, 3}, {7, 8}}) {
			t.Errorf("Span: the answer became %x", runs)
		}
	}
}

// P3: calls that answer an error leave what was handed in as it is, too.
func TestErrorsChangeNothing(t *testing.T) {
	as := []uint32{9, 8, 9, 1 << 16, 7, 0xee1, 0xee2}
	room := slices.Clone(as)
	for _, bits := range []int{15, 16} {
		serial.Sort(bits, 1, room[:5])
		serial.Span(bits, room[:5])
	}
	if !slices.Equal(room, as) {
		t.Errorf("what was handed in became %x", room)
	}
}

// P6: nothing is kept: the same question has the same answer, whatever was asked between.
func TestCallsKeepNothing(t *testing.T) {
	draw := draws(38)
	l := drawList(draw, 16, 200)
	first, _ := serial.Sort(16, 77, l)
	runs, _ := serial.Span(16, l)
	for range 20 {
		serial.Sort(32, uint32(draw()), drawList(draw, 32, 50))
		serial.Span(7, l)
		if again, _ := serial.Sort(16, 77, l); !slices.Equal(again, first) {
			t.Fatal("Sort answers another list")
		}
		if again, _ := serial.Span(16, l); !slices.Equal(again, runs) {
			t.Fatal("Span answers other runs")
		}
	}
}
