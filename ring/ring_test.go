package ring_test

import (
	"bytes"
	"math"
	"slices"
	"strconv"
	"testing"

	"trunkline/api"
	"trunkline/ring"
)

const (
	free = iota
	filled
	taken
)

// draws is a row of numbers that look like chance and are the same each time.
func draws(seed uint64) func() uint64 {
	return func() uint64 {
		seed += 0x9e3779b97f4a7c15
		z := (seed ^ seed>>30) * 0xbf58476d1ce4e5b9
		z = (z ^ z>>27) * 0x94d049bb133111eb
		return z ^ z>>31
	}
}

// made is a ring of n descriptors, which must be.
func made(t *testing.T, n int) *ring.Ring {
	t.Helper()
	r, e := ring.New(n)
	if e != api.OK || r == nil {
		t.Fatalf("New(%d): %v, error %d", n, r, e)
	}
	return r
}

func wantFill(t *testing.T, r *ring.Ring, b []byte, want api.Errno) {
	t.Helper()
	if e := r.Fill(b); e != want {
		t.Fatalf("Fill of %d bytes: error %d; want %d", len(b), e, want)
	}
}

func wantTake(t *testing.T, r *ring.Ring, want []byte, wantErr api.Errno) {
	t.Helper()
	b, e := r.Take()
	if e != wantErr || !bytes.Equal(b, want) {
		t.Fatalf("Take: % x, error %d; want % x, error %d", b, e, want, wantErr)
	}
}

func wantGive(t *testing.T, r *ring.Ring, want api.Errno) {
	t.Helper()
	if e := r.Give(); e != want {
		t.Fatalf("Give: error %d; want %d", e, want)
	}
}

func wantCount(t *testing.T, r *ring.Ring, want [4]int) {
	t.Helper()
	var got [4]int
	got[0], got[1], got[2], got[3] = r.Count()
	if got != want {
		t.Fatalf("Count: %v; want %v", got, want)
	}
}

// wantOwners holds Owner of each descriptor, and of those beside them, against a list.
func wantOwners(t *testing.T, r *ring.Ring, want ...int) {
	t.Helper()
	for i, owner := range want {
		if o, e := r.Owner(i); o != owner || e != api.OK {
			t.Fatalf("Owner(%d): %d, error %d; want %d", i, o, e, owner)
		}
	}
	for _, i := range []int{-1, len(want), len(want) + 1, 2 * len(want), math.MinInt, math.MaxInt} {
		if o, e := r.Owner(i); o != 0 || e != api.ErrArg {
			t.Fatalf("Owner(%d) of %d: %d, error %d", i, len(want), o, e)
		}
	}
}

// P7.1, New: from 1 to MaxRing; all are free at first, and nothing is there.
func TestNew(t *testing.T) {
	for n := 1; n <= api.MaxRing; n++ {
		r := made(t, n)
		wantCount(t, r, [4]int{n, 0, 0, 0})
		wantOwners(t, r, make([]int, n)...)
		wantTake(t, r, nil, api.ErrEmpty)
		wantGive(t, r, api.ErrEmpty)
	}
	for _, n := range []int{0, -1, api.MaxRing + 1, 2 * api.MaxRing, math.MinInt, math.MaxInt} {
		if r, e := ring.New(n); r != nil || e != api.ErrArg {
			t.Errorf("New(%d): %v, error %d", n, r, e)
		}
	}
}

// P7.1, Fill: from 1 byte to MaxFrame.
func TestHowManyBytesAreFilled(t *testing.T) {
	r := made(t, 3)
	wantFill(t, r, nil, api.ErrLimit)
	wantFill(t, r, []byte{}, api.ErrLimit)
	wantFill(t, r, make([]byte, 0, 8), api.ErrLimit)
	wantFill(t, r, make([]byte, api.MaxFrame+1), api.ErrLimit)
	wantFill(t, r, make([]byte, 1<<20), api.ErrLimit)
	wantCount(t, r, [4]int{3, 0, 0, 0})
	most := bytes.Repeat([]byte{1, 2, 3, 4, 5, 6}, api.MaxFrame)[:api.MaxFrame]
	wantFill(t, r, []byte{0}, api.OK)
	wantFill(t, r, most, api.OK)
	wantFill(t, r, most[1:], api.OK)
	wantTake(t, r, []byte{0}, api.OK)
	wantTake(t, r, most, api.OK)
	wantTake(t, r, most[1:], api.OK)
}

// P7.1 and P2: bytes that may not be are told ahead of a full ring, and are not counted as dropped.
func TestLimitIsToldAheadOfFull(t *testing.T) {
	r := made(t, 1)
	wantFill(t, r, []byte("a"), api.OK)
	wantFill(t, r, nil, api.ErrLimit)
	wantFill(t, r, make([]byte, api.MaxFrame+1), api.ErrLimit)
	wantCount(t, r, [4]int{0, 1, 0, 0})
	wantFill(t, r, make([]byte, api.MaxFrame), api.ErrFull)
	wantCount(t, r, [4]int{0, 1, 0, 1})
	wantTake(t, r, []byte("a"), api.OK)
}

// P7.1, the chapter's example: one descriptor is free again once it is given back.
func TestOneDescriptor(t *testing.T) {
	r := made(t, 1)
	wantFill(t, r, []byte("a"), api.OK)
	wantOwners(t, r, filled)
	wantFill(t, r, []byte("b"), api.ErrFull)
	wantGive(t, r, api.ErrEmpty)
	wantTake(t, r, []byte("a"), api.OK)
	wantOwners(t, r, taken)
	wantFill(t, r, []byte("c"), api.ErrFull)
	wantTake(t, r, nil, api.ErrEmpty)
	wantGive(t, r, api.OK)
	wantOwners(t, r, free)
	wantGive(t, r, api.ErrEmpty)
	wantFill(t, r, []byte("d"), api.OK)
	wantCount(t, r, [4]int{0, 1, 0, 2})
	wantTake(t, r, []byte("d"), api.OK)
}

// P7.1 and P7.2: who owns which, step by step, over the end.
func TestRoundTheEnd(t *testing.T) {
	r := made(t, 3)
	wantFill(t, r, []byte("a"), api.OK)
	wantOwners(t, r, filled, free, free)
	wantFill(t, r, []byte("b"), api.OK)
	wantTake(t, r, []byte("a"), api.OK)
	wantOwners(t, r, taken, filled, free)
	wantFill(t, r, []byte("c"), api.OK)
	wantOwners(t, r, taken, filled, filled)
	wantTake(t, r, []byte("b"), api.OK)
	wantOwners(t, r, taken, taken, filled)
	wantGive(t, r, api.OK)
	wantOwners(t, r, free, taken, filled)
	wantFill(t, r, []byte("d"), api.OK)
	wantOwners(t, r, filled, taken, filled)
	wantFill(t, r, []byte("e"), api.ErrFull)
	wantTake(t, r, []byte("c"), api.OK)
	wantTake(t, r, []byte("d"), api.OK)
	wantOwners(t, r, taken, taken, taken)
	wantTake(t, r, nil, api.ErrEmpty)
	wantCount(t, r, [4]int{0, 0, 3, 1})
	wantGive(t, r, api.OK)
	wantOwners(t, r, taken, free, taken)
	wantGive(t, r, api.OK)
	wantOwners(t, r, taken, free, free)
	wantGive(t, r, api.OK)
	wantOwners(t, r, free, free, free)
	wantGive(t, r, api.ErrEmpty)
	wantFill(t, r, []byte("f"), api.OK)
	wantOwners(t, r, free, filled, free)
	wantCount(t, r, [4]int{2, 1, 0, 1})
}

// model is a ring as the chapter's words tell it: each descriptor with its owner, and three that go round.
type model struct {
	owners           []int
	bodies           [][]byte
	fill, take, give int
	dropped          int
}

func newModel(n int) *model { return &model{owners: make([]int, n), bodies: make([][]byte, n)} }

func (m *model) fork() *model {
	other := *m
	other.owners, other.bodies = slices.Clone(m.owners), slices.Clone(m.bodies)
	return &other
}

func (m *model) doFill(b []byte) api.Errno {
	if len(b) < 1 || len(b) > api.MaxFrame {
		return api.ErrLimit
	}
	if m.owners[m.fill] != free {
		m.dropped++
		return api.ErrFull
	}
	m.owners[m.fill], m.bodies[m.fill] = filled, bytes.Clone(b)
	m.fill = (m.fill + 1) % len(m.owners)
	return api.OK
}

func (m *model) doTake() ([]byte, api.Errno) {
	if m.owners[m.take] != filled {
		return nil, api.ErrEmpty
	}
	b := m.bodies[m.take]
	m.owners[m.take] = taken
	m.take = (m.take + 1) % len(m.owners)
	return b, api.OK
}

func (m *model) doGive() api.Errno {
	if m.owners[m.give] != taken {
		return api.ErrEmpty
	}
	m.owners[m.give] = free
	m.give = (m.give + 1) % len(m.owners)
	return api.OK
}

func (m *model) count() [4]int {
	var all [4]int
	for _, owner := range m.owners {
		all[owner]++
	}
	all[3] = m.dropped
	return all
}

// step does one thing to a ring and to its model; pull says how readily it takes and gives back.
func step(t *testing.T, r *ring.Ring, m *model, draw func() uint64, pull uint64) {
	t.Helper()
	switch kind := draw() % 8; {
	case kind < 8-pull:
		size := int(1 + draw()%9)
		if draw()%16 == 0 {
			size = int(draw() % (api.MaxFrame + 3))
		}
		b := make([]byte, size)
		for i := range b {
			b[i] = byte(draw())
		}
		wantFill(t, r, b, m.doFill(b))
	case kind%2 == 0:
		b, e := m.doTake()
		wantTake(t, r, b, e)
	default:
		wantGive(t, r, m.doGive())
	}
}

// P7.1 to P7.3: rings of all sizes against the model, where much is filled and where much is taken.
func TestAgainstModel(t *testing.T) {
	draw := draws(71)
	for n := 1; n <= api.MaxRing; n++ {
		r, m := made(t, n), newModel(n)
		for i := range 40*n + 200 {
			step(t, r, m, draw, 3+uint64(i/(4*n))%5)
			wantCount(t, r, m.count())
			wantOwners(t, r, m.owners...)
		}
	}
}

// P7.3: what is taken is what was filled, in that order, each once.
func TestEachIsTakenOnce(t *testing.T) {
	draw := draws(73)
	for _, n := range []int{1, 2, 3, 7, api.MaxRing} {
		r := made(t, n)
		next, sent := 0, 0
		for range 3000 {
			switch draw() % 5 {
			case 0, 1:
				if r.Fill([]byte("frame "+strconv.Itoa(sent))) == api.OK {
					sent++
				}
			case 2, 3:
				if b, e := r.Take(); e == api.OK {
					if want := "frame " + strconv.Itoa(next); string(b) != want {
						t.Fatalf("%d descriptors: %q; want %q", n, b, want)
					}
					next++
				}
			default:
				r.Give()
			}
		}
		_, left, _, _ := r.Count()
		if next == 0 || sent-next != left {
			t.Errorf("%d descriptors: %d filled, %d taken, %d left", n, sent, next, left)
		}
	}
}

// owners asks who owns each of n.
func owners(t *testing.T, r *ring.Ring, n int) []int {
	t.Helper()
	var all []int
	for i := range n {
		o, e := r.Owner(i)
		if e != api.OK {
			t.Fatalf("Owner(%d): error %d", i, e)
		}
		all = append(all, o)
	}
	return all
}

// isRow: do the owners, round the ring, change from free to taken, to filled and to free, each at most once?
func isRow(all []int) bool {
	changes := 0
	for i, o := range all {
		next := all[(i+1)%len(all)]
		if next == o {
			continue
		}
		changes++
		if o == filled && next == taken && slices.Contains(all, free) || o == free && next == filled && slices.Contains(all, taken) || o == taken && next == free && slices.Contains(all, filled) {
			return false
		}
	}
	return changes <= 3
}

// P7.4: free, filled and taken ones together are n; the taken ones stand in a row, then the filled ones.
func TestRows(t *testing.T) {
	draw := draws(74)
	for n := 1; n <= api.MaxRing; n += 1 + n/8 {
		r := made(t, n)
		for i := range 30 * n {
			switch {
			case draw()%8 < 3+uint64(i/n)%3:
				r.Fill([]byte{1})
			case draw()%2 == 0:
				r.Take()
			default:
				r.Give()
			}
			a, b, c, _ := r.Count()
			all := owners(t, r, n)
			if a+b+c != n || a < 0 || b < 0 || c < 0 {
				t.Fatalf("%d, %d, %d of %d", a, b, c, n)
			}
			if !isRow(all) {
				t.Fatalf("no row: %v", all)
			}
		}
	}
}

// P7.5: one that went round often answers as one that is new.
func TestHowOftenItWentRound(t *testing.T) {
	for _, n := range []int{1, 2, 5, api.MaxRing} {
		for _, rounds := range []int{1, 2, 3, 255, 256, 1000} {
			old := made(t, n)
			for range rounds * n {
				wantFill(t, old, []byte{7}, api.OK)
				wantTake(t, old, []byte{7}, api.OK)
				wantGive(t, old, api.OK)
			}
			m, draw := newModel(n), draws(75)
			for range 4 * n {
				step(t, old, m, draw, 4)
				wantCount(t, old, m.count())
				wantOwners(t, old, m.owners...)
			}
		}
	}
}

// P7.2, Count: each Fill that is ErrFull is counted, and nothing else.
func TestDropped(t *testing.T) {
	r := made(t, 2)
	wantFill(t, r, []byte("a"), api.OK)
	wantFill(t, r, []byte("b"), api.OK)
	for i := range 1000 {
		wantFill(t, r, []byte("c"), api.ErrFull)
		wantCount(t, r, [4]int{0, 2, 0, i + 1})
	}
	wantTake(t, r, []byte("a"), api.OK)
	wantTake(t, r, []byte("b"), api.OK)
	wantTake(t, r, nil, api.ErrEmpty)
	wantGive(t, r, api.OK)
	wantGive(t, r, api.OK)
	wantGive(t, r, api.ErrEmpty)
	wantCount(t, r, [4]int{2, 0, 0, 1000})
}

// P1: what nil answers.
func TestNil(t *testing.T) {
	var r *ring.Ring
	wantFill(t, r, []byte("a"), api.ErrNil)
	wantFill(t, r, nil, api.ErrNil)
	wantFill(t, r, make([]byte, api.MaxFrame+1), api.ErrNil)
	wantTake(t, r, nil, api.ErrNil)
	wantGive(t, r, api.ErrNil)
	wantCount(t, r, [4]int{})
	for _, i := range []int{0, -1, 1, math.MaxInt} {
		if o, e := r.Owner(i); o != 0 || e != api.ErrNil {
			t.Errorf("Owner(%d): %d, error %d", i, o, e)
		}
	}
	if f := r.Fork(); f != nil {
		t.Errorf("Fork: %v", f)
	}
}

// P1: one that no call made answers, whatever it answers.
func TestOneThatNoCallMade(t *testing.T) {
	var r ring.Ring
	for range 2 {
		r.Fill([]byte("a"))
		r.Take()
		r.Give()
		r.Owner(0)
		r.Count()
		r.Fork().Fill([]byte("b"))
	}
}

// P3: what is filled is neither changed nor kept, spare room behind it neither.
func TestWhatIsFilledIsNotKept(t *testing.T) {
	r := made(t, 2)
	whole := []byte("abcdef")
	wantFill(t, r, whole[1:3], api.OK)
	wantFill(t, r, whole[:2:2], api.OK)
	if string(whole) != "abcdef" {
		t.Fatalf("changed: %q", whole)
	}
	for i := range whole {
		whole[i] = 'x'
	}
	b, _ := r.Take()
	c, _ := r.Take()
	if string(b) != "bc" || string(c) != "ab" {
		t.Errorf("kept: %q, %q", b, c)
	}
	for _, l := range [][]byte{b, c} {
		l = l[:cap(l)]
		for i := range l {
			l[i] = 'y'
		}
	}
	if string(whole) != "xxxxxx" {
		t.Errorf("shared: %q", whole)
	}
}

// P3: what is taken is new memory: neither the ring nor another answer has it.
func TestWhatIsTakenIsNotKept(t *testing.T) {
	r := made(t, 2)
	wantFill(t, r, []byte("one"), api.OK)
	wantFill(t, r, []byte("two"), api.OK)
	f := r.Fork()
	one, _ := r.Take()
	for i := range one[:cap(one)] {
		one[:cap(one)][i] = 'x'
	}
	wantTake(t, r, []byte("two"), api.OK)
	wantTake(t, f, []byte("one"), api.OK)
	wantGive(t, r, api.OK)
	wantFill(t, r, []byte("new"), api.OK)
	if string(one) != "xxx" {
		t.Errorf("laid into what was answered: %q", one)
	}
	wantTake(t, r, []byte("new"), api.OK)
}

// P4 and P7.2, Fork: one that is alike; of the two each goes on alone.
func TestFork(t *testing.T) {
	draw := draws(72)
	for _, n := range []int{1, 2, 3, 8, api.MaxRing} {
		for range 20 {
			r, m := made(t, n), newModel(n)
			for range int(draw() % uint64(6*n)) {
				step(t, r, m, draw, 3+draw()%4)
			}
			f, k := r.Fork(), m.fork()
			if f == r {
				t.Fatal("a Fork is the ring itself")
			}
			for range 3 * n {
				step(t, r, m, draw, 3+draw()%4)
				wantCount(t, f, k.count())
				wantOwners(t, f, k.owners...)
			}
			for range 6 * n {
				step(t, f, k, draw, 3+draw()%4)
				step(t, r, m, draw, 3+draw()%4)
				wantCount(t, f, k.count())
				wantOwners(t, f, k.owners...)
				wantCount(t, r, m.count())
				wantOwners(t, r, m.owners...)
			}
		}
	}
}

// P6: of two rings the one changes nothing of the other one.
func TestTwoRings(t *testing.T) {
	a, b := made(t, 1), made(t, 1)
	wantFill(t, a, []byte("a"), api.OK)
	wantCount(t, b, [4]int{1, 0, 0, 0})
	wantTake(t, b, nil, api.ErrEmpty)
	wantFill(t, b, []byte("b"), api.OK)
	wantTake(t, a, []byte("a"), api.OK)
	wantTake(t, b, []byte("b"), api.OK)
}
