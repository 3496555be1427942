package gaps_test

import (
	"math"
	"slices"
	"testing"

	"trunkline/api"
	"trunkline/gaps"
)

// firsts are numbers to begin with: within the row, and so that what is taken goes over the turn, or over M/2.
var firsts = []uint32{0, 1, 10, 255, 256, 257, 1 << 16, 1<<31 - 100, 1 << 31, 1<<32 - 300, 1<<32 - 256, 1<<32 - 5, 1<<32 - 1}

// draws is a row of numbers that look like chance and are the same each time.
func draws(seed uint64) func() uint64 {
	return func() uint64 {
		seed += 0x9e3779b97f4a7c15
		z := (seed ^ seed>>30) * 0xbf58476d1ce4e5b9
		z = (z ^ z>>27) * 0x94d049bb133111eb
		return z ^ z>>31
	}
}

// stand is all that a tracker tells, doubles left out: to ask for them changes it.
type stand struct {
	cum, top uint32
	blocks   [][2]uint16
}

func standOf(x *gaps.Tracker) stand { return stand{x.Cum(), x.Top(), x.Blocks()} }

func (s stand) equal(o stand) bool {
	return s.cum == o.cum && s.top == o.top && slices.Equal(s.blocks, o.blocks)
}

// want holds a tracker against what it is to tell.
func want(t *testing.T, name string, x *gaps.Tracker, cum, top uint32, blocks ...[2]uint16) {
	t.Helper()
	if got, s := standOf(x), (stand{cum, top, blocks}); !got.equal(s) {
		t.Errorf("%s: %v; want %v", name, got, s)
	}
}

// wantDups holds the doubles against what is asked, and asks for them again: then there are none.
func wantDups(t *testing.T, name string, x *gaps.Tracker, dups ...uint32) {
	t.Helper()
	if got := x.Dups(); !slices.Equal(got, dups) {
		t.Errorf("%s: doubles %d; want %d", name, got, dups)
	}
	if got := x.Dups(); len(got) != 0 {
		t.Errorf("%s: doubles told again: %d", name, got)
	}
}

// add adds numbers, each of which must answer e.
func add(t *testing.T, name string, x *gaps.Tracker, e api.Errno, numbers ...uint32) {
	t.Helper()
	for _, n := range numbers {
		if got := x.Add(n); got != e {
			t.Fatalf("%s: Add(%d): error %d; want %d", name, n, got, e)
		}
	}
}

// model is a tracker in numbers that do not go round: those that were taken, each as how far it is behind first.
type model struct {
	taken map[int]bool
	dups  []int
}

func (m *model) cum() int {
	n := -1
	for m.taken[n+1] {
		n++
	}
	return n
}

func (m *model) add(n int) api.Errno {
	switch {
	case n <= m.cum() || m.taken[n]:
		if len(m.dups) < api.MaxDups {
			m.dups = append(m.dups, n)
		}
		return api.ErrKnown
	case n-m.cum() > api.MaxWindow:
		return api.ErrFull
	}
	m.taken[n] = true
	return api.OK
}

// stand is what a tracker that began at first is to tell.
func (m *model) stand(first uint32) stand {
	cum := m.cum()
	s := stand{cum: first + uint32(cum), top: first + uint32(cum)}
	for n := cum + 1; n <= cum+api.MaxWindow; n++ {
		if !m.taken[n] {
			continue
		}
		s.top = first + uint32(n)
		if m.taken[n-1] {
			s.blocks[len(s.blocks)-1][1]++
		} else {
			s.blocks = append(s.blocks, [2]uint16{uint16(n - cum), uint16(n - cum)})
		}
	}
	s.blocks = s.blocks[:min(len(s.blocks), api.MaxBlocks)]
	return s
}

// P4.1, P4.2: the chapter's example.
func TestExample(t *testing.T) {
	x := gaps.New(10)
	add(t, "taken", x, api.OK, 10, 12, 13)
	add(t, "a double", x, api.ErrKnown, 12)
	want(t, "the example", x, 10, 13, [2]uint16{2, 3})
	wantDups(t, "the example", x, 12)
}

// P4.1, P4.2: a new tracker has taken all up to the one ahead of first.
func TestNew(t *testing.T) {
	for _, first := range firsts {
		x := gaps.New(first)
		want(t, "new", x, first-1, first-1)
		wantDups(t, "new", x)
		for _, n := range []uint32{1, 2, 300, 1 << 30, 1 << 31, 1<<31 + 1} {
			if !x.Has(first - n) {
				t.Errorf("first %d: has not the one %d ahead of it", first, n)
			}
		}
		for _, n := range []uint32{0, 1, 255, 256, 1 << 30, 1<<31 - 2} {
			if x.Has(first + n) {
				t.Errorf("first %d: has the one %d behind it", first, n)
			}
		}
	}
}

// P4.1, Add: in order cum goes on by one each time; nothing is ahead of it.
func TestAddInOrder(t *testing.T) {
	for _, first := range firsts {
		x := gaps.New(first)
		for i := range uint32(3 * api.MaxWindow) {
			add(t, "in order", x, api.OK, first+i)
			want(t, "in order", x, first+i, first+i)
		}
		wantDups(t, "in order", x)
	}
}

// P4.1, Add: a gap that is filled lets cum go on over all that were taken, and no farther.
func TestGapIsFilled(t *testing.T) {
	for _, first := range firsts {
		x := gaps.New(first)
		add(t, "behind a gap", x, api.OK, first+2, first+1, first+4, first+6, first+7)
		want(t, "behind a gap", x, first-1, first+7, [2]uint16{2, 3}, [2]uint16{5, 5}, [2]uint16{7, 8})
		add(t, "the first gap", x, api.OK, first)
		want(t, "the first gap", x, first+2, first+7, [2]uint16{2, 2}, [2]uint16{4, 5})
		add(t, "a gap behind it", x, api.OK, first+5)
		want(t, "a gap behind it", x, first+2, first+7, [2]uint16{2, 5})
		add(t, "the last gap", x, api.OK, first+3)
		want(t, "the last gap", x, first+7, first+7)
		wantDups(t, "all", x)
	}
}

// P4.1, Add: MaxWindow ahead is taken, one more is not, and changes nothing.
func TestWindow(t *testing.T) {
	for _, first := range firsts {
		x := gaps.New(first)
		cum := x.Cum()
		for _, n := range []uint32{1, 2, 255, 256, 257, 1 << 20, 1<<31 - 1 - api.MaxWindow} {
			add(t, "too far", x, api.ErrFull, cum+api.MaxWindow+n)
		}
		want(t, "too far", x, cum, cum)
		wantDups(t, "too far", x)
		add(t, "as far as may be", x, api.OK, cum+api.MaxWindow)
		want(t, "as far as may be", x, cum, cum+api.MaxWindow, [2]uint16{api.MaxWindow, api.MaxWindow})
		// Those a whole window farther on, or back, are others.
		if x.Has(cum+2*api.MaxWindow) || x.Has(cum+api.MaxWindow+1) || x.Has(cum+1) {
			t.Errorf("first %d: has what was not taken", first)
		}
		add(t, "a window behind a taken one", x, api.ErrFull, cum+2*api.MaxWindow)
		add(t, "the next one", x, api.OK, cum+1)
		add(t, "one more", x, api.OK, cum+api.MaxWindow+1)
		add(t, "and no more", x, api.ErrFull, cum+api.MaxWindow+2)
		want(t, "one more", x, cum+1, cum+api.MaxWindow+1, [2]uint16{api.MaxWindow - 1, api.MaxWindow})
		wantDups(t, "the window", x)
	}
}

// P4.1, Add: a whole window is taken from its far end on; the last one lets cum go over all of it, and the window is free again.
func TestWholeWindow(t *testing.T) {
	for _, first := range firsts {
		x := gaps.New(first)
		at := first
		for range 3 {
			for i := uint32(api.MaxWindow - 1); i >= 1; i-- {
				add(t, "from the far end", x, api.OK, at+i)
			}
			want(t, "all but one", x, at-1, at+api.MaxWindow-1, [2]uint16{2, api.MaxWindow})
			add(t, "the last one", x, api.OK, at)
			want(t, "all", x, at+api.MaxWindow-1, at+api.MaxWindow-1)
			at += api.MaxWindow
		}
	}
}

// P4.1, Add and Has: what is M/2 away is not ahead, what is one less is.
func TestHalfRound(t *testing.T) {
	for _, first := range firsts {
		x := gaps.New(first)
		cum := x.Cum()
		add(t, "M/2 - 1", x, api.ErrFull, cum+1<<31-1)
		add(t, "M/2", x, api.ErrKnown, cum+1<<31)
		add(t, "M/2 + 1", x, api.ErrKnown, cum+1<<31+1)
		add(t, "itself", x, api.ErrKnown, cum)
		if x.Has(cum+1<<31-1) || !x.Has(cum+1<<31) || !x.Has(cum+1<<31+1) || !x.Has(cum) {
			t.Errorf("first %d: Has about M/2", first)
		}
		wantDups(t, "half round", x, cum+1<<31, cum+1<<31+1, cum)
		want(t, "half round", x, cum, cum)
	}
}

// P4.1, P4.2: MaxDups doubles are noted, in the order in which they came, and not one more; told, there is room again.
func TestDoubles(t *testing.T) {
	for _, first := range firsts {
		x := gaps.New(first)
		for i := range uint32(api.MaxDups + 4) {
			add(t, "taken", x, api.OK, first+2*i)
		}
		var noted []uint32
		for i := range uint32(api.MaxDups) {
			n := first + 2*(i*7%(api.MaxDups+4)) // in no order of numbers
			add(t, "doubles", x, api.ErrKnown, n)
			noted = append(noted, n)
		}
		add(t, "one more", x, api.ErrKnown, first, first+2, first-9)
		wantDups(t, "MaxDups", x, noted...)
		add(t, "room again", x, api.ErrKnown, first+2)
		wantDups(t, "room again", x, first+2)
	}
}

// P4.1, P4.2: each time that a double comes it is noted, the same one too, and one that was ahead of a gap as well as one that cum went over.
func TestDoubleTwice(t *testing.T) {
	x := gaps.New(1<<32 - 1)
	add(t, "taken", x, api.OK, 1<<32-1, 3)
	add(t, "doubles", x, api.ErrKnown, 3, 1<<32-1, 3, 3, 1<<32-2)
	wantDups(t, "twice", x, 3, 1<<32-1, 3, 3, 1<<32-2)
	for range api.MaxDups + 1 {
		add(t, "always the same", x, api.ErrKnown, 3)
	}
	wantDups(t, "always the same", x, slices.Repeat([]uint32{3}, api.MaxDups)...)
}

// P4.1, P4.2: a double changes nothing but what Dups tells, and to tell it changes nothing else.
func TestDoublesChangeNothingElse(t *testing.T) {
	x := gaps.New(7)
	add(t, "taken", x, api.OK, 7, 9, 10, 300-50)
	was := standOf(x)
	add(t, "doubles", x, api.ErrKnown, 9, 10, 250, 7, 6, 0)
	if now := standOf(x); !now.equal(was) {
		t.Errorf("behind doubles: %v; want %v", now, was)
	}
	x.Dups()
	if now := standOf(x); !now.equal(was) {
		t.Errorf("behind Dups: %v; want %v", now, was)
	}
}

// P4.2, Blocks: MaxBlocks are told, and of more the first ones; Top and Has know the others.
func TestManyBlocks(t *testing.T) {
	for _, first := range firsts {
		x := gaps.New(first)
		cum := x.Cum()
		var blocks [][2]uint16
		for i := range uint16(api.MaxBlocks) {
			at := 2 + 4*i
			add(t, "blocks", x, api.OK, cum+uint32(at)+1, cum+uint32(at))
			blocks = append(blocks, [2]uint16{at, at + 1})
		}
		last := uint32(2 + 4*(api.MaxBlocks-1) + 1)
		want(t, "MaxBlocks", x, cum, cum+last, blocks...)
		add(t, "the last one grows", x, api.OK, cum+last+1)
		blocks[api.MaxBlocks-1][1]++
		want(t, "the last one grows", x, cum, cum+last+1, blocks...)
		add(t, "one more", x, api.OK, cum+last+3)
		want(t, "one more", x, cum, cum+last+3, blocks...)
		if !x.Has(cum+last+3) || x.Has(cum+last+2) {
			t.Errorf("first %d: Has of a block that is not told", first)
		}
		add(t, "the first gap", x, api.OK, cum+1) // the first block is gone: another one is told
		tops := standOf(x)
		if n := len(tops.blocks); n != api.MaxBlocks || tops.cum != cum+3 || tops.blocks[n-1] != [2]uint16{uint16(last), uint16(last)} {
			t.Errorf("first %d: behind the first gap: %v", first, tops)
		}
	}
}

// P4.2, Blocks: as many as a window can have, every other number.
func TestEveryOtherNumber(t *testing.T) {
	x := gaps.New(0)
	for n := uint32(1); n < api.MaxWindow; n += 2 {
		add(t, "every other one", x, api.OK, n)
	}
	var blocks [][2]uint16
	for i := range uint16(api.MaxBlocks) {
		blocks = append(blocks, [2]uint16{2 + 2*i, 2 + 2*i})
	}
	want(t, "every other one", x, math.MaxUint32, api.MaxWindow-1, blocks...)
}

// P1, P4.1, P4.2: a nil tracker.
func TestNil(t *testing.T) {
	var x *gaps.Tracker
	for _, n := range []uint32{0, 1, 1 << 31, math.MaxUint32} {
		if e := x.Add(n); e != api.ErrNil {
			t.Errorf("Add(%d): error %d", n, e)
		}
		if x.Has(n) {
			t.Errorf("Has(%d)", n)
		}
	}
	want(t, "nil", x, 0, 0)
	wantDups(t, "nil", x)
	if x.Fork() != nil {
		t.Error("Fork of nil is one")
	}
}

// P4.2, P4: a Fork is alike, and what becomes of the one changes nothing of the other.
func TestFork(t *testing.T) {
	for _, first := range firsts {
		x := gaps.New(first)
		add(t, "taken", x, api.OK, first, first+2, first+3, first+200)
		add(t, "doubles", x, api.ErrKnown, first+2, first)
		y := x.Fork()
		if y == nil || y == x {
			t.Fatal("Fork is no other one")
		}
		was := standOf(x)
		if s := standOf(y); !s.equal(was) {
			t.Errorf("Fork: %v; want %v", s, was)
		}

		add(t, "the Fork goes on", y, api.OK, first+1, first+5)
		add(t, "the Fork goes on", y, api.ErrKnown, first+3)
		if s := standOf(x); !s.equal(was) {
			t.Errorf("what the Fork took: %v; want %v", s, was)
		}
		if x.Has(first+1) || x.Has(first+5) {
			t.Error("the first one has what its Fork took")
		}

		add(t, "the first one goes on", x, api.ErrKnown, first+200)
		add(t, "the first one goes on", x, api.OK, first+9)
		want(t, "the Fork", y, first+3, first+200, [2]uint16{2, 2}, [2]uint16{197, 197})
		wantDups(t, "the first one", x, first+2, first, first+200)
		wantDups(t, "the Fork", y, first+2, first, first+3)
	}
}

// P4, P3: the doubles of a Fork lie in memory of their own, and a list that was told in the caller's.
func TestDupsAreNewMemory(t *testing.T) {
	x := gaps.New(5)
	add(t, "doubles", x, api.ErrKnown, 1, 2, 3)
	y := x.Fork()
	told := x.Dups()
	clear(told[:cap(told)])
	wantDups(t, "the Fork", y, 1, 2, 3)

	add(t, "doubles", x, api.ErrKnown, 4, 3)
	first := x.Dups()
	add(t, "doubles", x, api.ErrKnown, 2, 1)
	if !slices.Equal(first, []uint32{4, 3}) {
		t.Errorf("what was told became %d", first)
	}
	clear(first[:cap(first)])
	wantDups(t, "behind a list that was changed", x, 2, 1)
}

// P3: blocks that were told are the caller's.
func TestBlocksAreNewMemory(t *testing.T) {
	x := gaps.New(5)
	add(t, "taken", x, api.OK, 7, 9)
	told := x.Blocks()
	again := x.Blocks()
	clear(told[:cap(told)])
	if !slices.Equal(again, [][2]uint16{{3, 3}, {5, 5}}) {
		t.Errorf("what was told became %d", again)
	}
	want(t, "behind a list that was changed", x, 4, 9, [2]uint16{3, 3}, [2]uint16{5, 5})
}

// drawNumber is a number about cum: most ahead of it, some behind it, some too far.
func drawNumber(draw func() uint64, cum int) int {
	switch draw() % 16 {
	case 0:
		return cum - int(draw()%20)
	case 1:
		return cum + api.MaxWindow - 2 + int(draw()%5)
	case 2:
		return cum + int(draw()%(1<<20))
	case 3, 4, 5, 6:
		return cum + 1
	case 7, 8:
		return cum + int(draw()%api.MaxWindow)
	}
	return cum + 1 + int(draw()%24)
}

// P4.1, P4.2: long rows of numbers, held against the model at each step.
func TestAgainstModel(t *testing.T) {
	draw := draws(41)
	for _, first := range firsts {
		x, m := gaps.New(first), &model{taken: map[int]bool{}}
		for range 600 {
			n := drawNumber(draw, m.cum())
			if has := n <= m.cum() || m.taken[n]; x.Has(first+uint32(n)) != has {
				t.Fatalf("first %d: Has of %d behind it: %t", first, n, !has)
			}
			e := m.add(n)
			if got := x.Add(first + uint32(n)); got != e {
				t.Fatalf("first %d: Add of %d behind it: error %d; want %d", first, n, got, e)
			}
			if got, s := standOf(x), m.stand(first); !got.equal(s) {
				t.Fatalf("first %d: behind %d: %v; want %v", first, n, got, s)
			}
			if draw()%30 == 0 {
				var dups []uint32
				for _, n := range m.dups {
					dups = append(dups, first+uint32(n))
				}
				wantDups(t, "model", x, dups...)
				m.dups = nil
			}
		}
	}
}

// P4.3: in which order numbers come plays no part for what is taken.
func TestOrderPlaysNoPart(t *testing.T) {
	draw := draws(43)
	for range 100 {
		first := firsts[draw()%uint64(len(firsts))]
		var numbers []uint32
		for range draw() % 60 {
			numbers = append(numbers, first+uint32(draw()%api.MaxWindow)) // at most MaxWindow ahead: none is refused
		}
		numbers = append(numbers, first, first+1)
		var was stand
		for turn := range 4 {
			x := gaps.New(first)
			for _, n := range numbers {
				if e := x.Add(n); e != api.OK && e != api.ErrKnown {
					t.Fatalf("first %d: Add(%d): error %d", first, n, e)
				}
			}
			now := standOf(x)
			if turn > 0 && !now.equal(was) {
				t.Fatalf("first %d, %d: %v, and %v in another order", first, numbers, was, now)
			}
			was = now
			for i := range numbers {
				j := draw() % uint64(i+1)
				numbers[i], numbers[j] = numbers[j], numbers[i]
			}
		}
	}
}

// P4.4: the first block begins at 2 or more, blocks rise with a gap between, and have just what was taken ahead.
func TestGapsBetweenBlocks(t *testing.T) {
	draw := draws(44)
	for range 300 {
		first := firsts[draw()%uint64(len(firsts))]
		x := gaps.New(first)
		for range draw() % 80 {
			x.Add(first + uint32(draw()%api.MaxWindow*(draw()%2)+draw()%30))
		}
		cum, blocks := x.Cum(), x.Blocks()
		in := map[int]bool{}
		last := 0
		for _, b := range blocks {
			if int(b[0]) < last+2 || b[1] < b[0] || b[1] > api.MaxWindow {
				t.Fatalf("first %d: blocks %d", first, blocks)
			}
			last = int(b[1])
			for n := int(b[0]); n <= last; n++ {
				in[n] = true
			}
		}
		for n := 1; n <= api.MaxWindow+2; n++ {
			told := len(blocks) < api.MaxBlocks || n <= last
			if has := x.Has(cum + uint32(n)); told && has != in[n] {
				t.Fatalf("first %d: blocks %d, and %d ahead: %t", first, blocks, n, has)
			}
		}
	}
}

// P4.5: where the numbers begin plays no part.
func TestBeginningPlaysNoPart(t *testing.T) {
	draw := draws(45)
	for _, by := range append([]uint32{1, 63, 64, 255, 256, 1 << 31}, firsts...) {
		x, y := gaps.New(3), gaps.New(3+by)
		for range 400 {
			n := uint32(3 + drawNumber(draw, int(x.Cum())-2))
			if x.Has(n) != y.Has(n+by) {
				t.Fatalf("Has(%d), and all by %d greater", n, by)
			}
			if e, f := x.Add(n), y.Add(n+by); e != f {
				t.Fatalf("Add(%d): error %d, and %d where all is by %d greater", n, e, f, by)
			}
			was, now := standOf(x), standOf(y)
			was.cum, was.top = was.cum+by, was.top+by
			if !now.equal(was) {
				t.Fatalf("by %d greater: %v; want %v", by, now, was)
			}
		}
		dups := x.Dups()
		for i := range dups {
			dups[i] += by
		}
		wantDups(t, "by as much greater", y, dups...)
	}
}

// P4.6: a number that was taken is never taken again.
func TestTakenOnce(t *testing.T) {
	draw := draws(46)
	for _, first := range firsts {
		x := gaps.New(first)
		taken := map[uint32]bool{}
		for range 3000 {
			n := x.Cum() + uint32(draw()%40) - 5
			e := x.Add(n)
			if e == api.OK && taken[n] {
				t.Fatalf("first %d: %d was taken twice", first, n)
			}
			taken[n] = taken[n] || e == api.OK
			if taken[n] && (e != api.OK && e != api.ErrKnown || !x.Has(n)) {
				t.Fatalf("first %d: %d was taken, and now: error %d", first, n, e)
			}
		}
	}
}

// P6: trackers know nothing of each other.
func TestTrackersAreAlone(t *testing.T) {
	x, y := gaps.New(5), gaps.New(5)
	add(t, "the one", x, api.OK, 5, 7)
	add(t, "the one", x, api.ErrKnown, 5)
	want(t, "the other", y, 4, 4)
	wantDups(t, "the other", y)
	want(t, "a new one", gaps.New(5), 4, 4)
}
