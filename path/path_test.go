package path_test

import (
	"math"
	"testing"

	"trunkline/api"
	"trunkline/path"
)

const mtu = 500

func make1(t *testing.T, mtu int) *path.Path {
	t.Helper()
	p, e := path.New(mtu)
	if p == nil || e != api.OK {
		t.Fatalf("New(%d): error %d", mtu, e)
	}
	return p
}

func want(t *testing.T, p *path.Path, w api.Way) {
	t.Helper()
	if got := p.Stands(); got != w {
		t.Fatalf("it stands %+v; want %+v", got, w)
	}
}

// wantErr holds an error against what it is to be.
func wantErr(t *testing.T, what string, e, want api.Errno) {
	t.Helper()
	if e != want {
		t.Fatalf("%s: error %d; want %d", what, e, want)
	}
}

func wantDown(t *testing.T, call func() (bool, api.Errno), want bool) {
	t.Helper()
	if down, e := call(); down != want || e != api.OK {
		t.Fatalf("down: %v, error %d; want %v", down, e, want)
	}
}

func wantAnswer(t *testing.T, p *path.Path, nonce uint64, now int, want bool, wantErr api.Errno) {
	t.Helper()
	if good, e := p.Answer(nonce, now); good != want || e != wantErr {
		t.Fatalf("Answer(%d, %d): %v, error %d; want %v, error %d", nonce, now, good, e, want, wantErr)
	}
}

// P15.1: which ways there are, and how they stand at first.
func TestNew(t *testing.T) {
	for _, x := range []int{math.MinInt, -1, 0, 63, 1501, math.MaxInt} {
		if p, e := path.New(x); p != nil || e != api.ErrArg {
			t.Errorf("New(%d): %v, error %d", x, p, e)
		}
	}
	for _, x := range []struct{ mtu, window int }{
		{64, 256}, {500, 2000}, {1100, 4400}, {1101, 4404}, {1102, 4404}, {1500, 4404},
	} {
		want(t, make1(t, x.mtu), api.Way{Window: x.window, Slow: 8192, Rto: 30, Up: true})
	}
}

// P15.2: how long to wait, by the times that were measured.
func TestSample(t *testing.T) {
	p := make1(t, mtu)
	for _, x := range []int{math.MinInt, -1, api.MaxTick + 1, math.MaxInt} {
		wantErr(t, "Sample", p.Sample(x), api.ErrArg)
	}
	want(t, p, api.Way{Window: 2000, Slow: 8192, Rto: 30, Up: true})
	for _, x := range []struct{ ticks, mean, spread, rto int }{
		{8, 64, 16, 24},                // the first one
		{16, 72, 20, 29},               // 8 more than the mean
		{2, 65, 22, 30},                // 7 less
		{8, 65, 17, 25},                // 65 / 8 is 8
		{8, 65, 13, 21},                // 17 / 4 is 4
		{600, 657, 602, 600},           // 592 more: not above MaxRto
		{601, 1175, 970, 600},          // counts as 600: 518 more
		{api.MaxTick, 1629, 1182, 600}, // 454 more
	} {
		wantErr(t, "Sample", p.Sample(x.ticks), api.OK)
		want(t, p, api.Way{Window: 2000, Slow: 8192, Rto: x.rto, Mean: x.mean, Spread: x.spread, Up: true})
	}
}

// P15.2: a first time of 0 is one that was measured, and Rto is never below MinRto.
func TestSampleOfNothing(t *testing.T) {
	p := make1(t, mtu)
	wantErr(t, "Sample", p.Sample(0), api.OK)
	want(t, p, api.Way{Window: 2000, Slow: 8192, Rto: 10, Up: true})
	wantErr(t, "Sample", p.Sample(20), api.OK)
	want(t, p, api.Way{Window: 2000, Slow: 8192, Rto: 22, Mean: 20, Spread: 20, Up: true})
	q := make1(t, mtu)
	wantErr(t, "Sample", q.Sample(3), api.OK)
	want(t, q, api.Way{Window: 2000, Slow: 8192, Rto: 10, Mean: 24, Spread: 6, Up: true})
	r := make1(t, mtu)
	wantErr(t, "Sample", r.Sample(api.MaxTick), api.OK)
	want(t, r, api.Way{Window: 2000, Slow: 8192, Rto: 600, Mean: 4800, Spread: 1200, Up: true})
}

// P15.3: below the threshold a full window grows by what was acknowledged, mtu at most.
func TestGrowFast(t *testing.T) {
	p := make1(t, mtu)
	for _, x := range []struct {
		bytes  int
		moved  bool
		flight int
		window int
	}{
		{700, true, 1999, 2000},  // it was not full
		{700, false, 2000, 2000}, // nothing moved
		{0, true, 2000, 2000},    // no bytes
		{700, true, 2000, 2500},
		{500, true, 2500, 3000},
		{499, true, 8192, 3499},
		{1, true, 3499, 3500},
		{8192, true, 3500, 4000},
	} {
		wantErr(t, "Grow", p.Grow(x.bytes, x.moved, x.flight), api.OK)
		want(t, p, api.Way{Window: x.window, Slow: 8192, Rto: 30, Up: true})
	}
	for _, x := range [][2]int{{-1, 0}, {8193, 0}, {0, -1}, {0, 8193}, {math.MinInt, 0}, {0, math.MaxInt}, {math.MaxInt, math.MinInt}} {
		wantErr(t, "Grow", p.Grow(x[0], true, x[1]), api.ErrArg)
		wantErr(t, "Grow", p.Grow(x[0], false, x[1]), api.ErrArg)
	}
	want(t, p, api.Way{Window: 4000, Slow: 8192, Rto: 30, Up: true})
}

// P15.3: above the threshold a window grows by mtu for each window of bytes.
func TestGrowSlowly(t *testing.T) {
	p := make1(t, mtu)
	p.Fast() // Slow is 2000, and so is Window
	wantErr(t, "Grow", p.Grow(100, true, 2000), api.OK)
	want(t, p, api.Way{Window: 2100, Slow: 2000, Rto: 30, Up: true})
	for _, x := range []struct {
		bytes  int
		moved  bool
		flight int
		window int
		part   int
	}{
		{1000, true, 2100, 2100, 1000},
		{1000, false, 2100, 2100, 1000}, // nothing moved
		{0, true, 2100, 2100, 1000},     // no bytes
		{1099, true, 2100, 2100, 2099},
		{1, true, 2099, 2100, 2100},    // enough, and not full
		{1, true, 2100, 2600, 1},       // less by the window as it was
		{2599, true, 2600, 3100, 0},    // just enough
		{8192, true, 3100, 3600, 5092}, // one step at once
		{1, true, 3600, 4100, 1493},
	} {
		wantErr(t, "Grow", p.Grow(x.bytes, x.moved, x.flight), api.OK)
		want(t, p, api.Way{Window: x.window, Slow: 2000, Part: x.part, Rto: 30, Up: true})
	}
	p.Fast()
	want(t, p, api.Way{Window: 2050, Slow: 2050, Rto: 30, Up: true})
}

// P15.3: what a loss leaves of a window.
func TestLoss(t *testing.T) {
	p := make1(t, mtu)
	for range 9 {
		p.Grow(500, true, 8192)
	}
	want(t, p, api.Way{Window: 6500, Slow: 8192, Rto: 30, Up: true})
	q := p.Fork()
	wantErr(t, "Fast", p.Fast(), api.OK)
	want(t, p, api.Way{Window: 3250, Slow: 3250, Rto: 30, Up: true})
	wantErr(t, "Fast", p.Fast(), api.OK)
	want(t, p, api.Way{Window: 2000, Slow: 2000, Rto: 30, Up: true}) // four mtu at least
	wantDown(t, q.Late, false)
	want(t, q, api.Way{Window: 500, Slow: 3250, Rto: 60, Faults: 1, Up: true})
	wantDown(t, q.Late, false)
	want(t, q, api.Way{Window: 500, Slow: 2000, Rto: 120, Faults: 2, Up: true})
	odd := make1(t, 65)
	for range 9 {
		odd.Grow(1, true, 8192)
	}
	odd.Fast() // 269 / 2 is 134, four mtu are more
	want(t, odd, api.Way{Window: 260, Slow: 260, Rto: 30, Up: true})
}

// P15.3: Part is lost with the window; half of an odd window is downwards; Rto is doubled up to MaxRto.
func TestLate(t *testing.T) {
	p := make1(t, mtu)
	p.Fast()
	for range 5 {
		p.Grow(2501, true, 8192)
	}
	p.Grow(7, true, 8192)
	before := p.Stands()
	if before.Part == 0 {
		t.Fatalf("no Part: %+v", before)
	}
	for i, rto := range []int{60, 120, 240, 480, 600, 600, 600} {
		wantDown(t, p.Late, i == 3)
		want(t, p, api.Way{Window: 500, Slow: max(2000, before.Window/2), Rto: rto, Faults: i + 1, Up: i < 3})
		before.Window = 500
	}
}

// P15.4, P15.6: a way is down just if more than MaxFaults faults came one behind the other since it was good.
func TestFaults(t *testing.T) {
	p := make1(t, mtu)
	for round := range 3 {
		for i := range 6 {
			wantDown(t, p.Fault, i == 3)
			want(t, p, api.Way{Window: 2000, Slow: 8192, Rto: 30, Faults: i + 1, Up: i < 3})
		}
		for range round + 1 {
			wantErr(t, "Good", p.Good(), api.OK)
			want(t, p, api.Way{Window: 2000, Slow: 8192, Rto: 30, Up: true})
		}
	}
	for range 20 {
		for range 3 {
			wantDown(t, p.Fault, false)
		}
		p.Good()
	}
	want(t, p, api.Way{Window: 2000, Slow: 8192, Rto: 30, Up: true})
}

// P15.4, P15.7: a nonce that was not sent, or was answered, or is forgotten, is no answer, and changes nothing.
func TestBeat(t *testing.T) {
	p := make1(t, mtu)
	fresh := p.Stands()
	wantAnswer(t, p, 0, 0, false, api.OK)
	for _, now := range []int{math.MinInt, -1, api.MaxTick + 1, math.MaxInt} {
		wantErr(t, "Beat", p.Beat(7, now), api.ErrArg)
		wantAnswer(t, p, 7, now, false, api.ErrArg)
	}
	wantAnswer(t, p, 7, 5, false, api.OK)
	for range 5 {
		p.Fault()
	}
	wantErr(t, "Beat", p.Beat(7, 100), api.OK)
	fresh.Faults, fresh.Up = 5, false
	want(t, p, fresh)
	wantAnswer(t, p, 8, 105, false, api.OK)
	wantAnswer(t, p, 7, 99, false, api.OK) // ahead of it
	wantAnswer(t, p, 7, -1, false, api.ErrArg)
	want(t, p, fresh)
	wantErr(t, "Beat", p.Beat(9, -1), api.ErrArg) // and what was is not forgotten
	wantAnswer(t, p, 7, 108, true, api.OK)
	answered := api.Way{Window: 2000, Slow: 8192, Rto: 24, Mean: 64, Spread: 16, Up: true, Sure: true}
	want(t, p, answered)
	wantAnswer(t, p, 7, 109, false, api.OK)
	want(t, p, answered)
	p.Beat(1, 200)
	p.Beat(2, 210)
	wantAnswer(t, p, 1, 220, false, api.OK) // forgotten
	want(t, p, answered)
	wantAnswer(t, p, 2, 226, true, api.OK)
	want(t, p, api.Way{Window: 2000, Slow: 8192, Rto: 29, Mean: 72, Spread: 20, Up: true, Sure: true})
}

// P15.4: the edges of ticks and nonces.
func TestBeatAtTheEdges(t *testing.T) {
	p := make1(t, mtu)
	p.Beat(0, 0)
	wantAnswer(t, p, 0, 0, true, api.OK)
	want(t, p, api.Way{Window: 2000, Slow: 8192, Rto: 10, Up: true, Sure: true})
	p = make1(t, mtu)
	p.Beat(math.MaxUint64, 0)
	wantAnswer(t, p, math.MaxUint64, api.MaxTick, true, api.OK)
	want(t, p, api.Way{Window: 2000, Slow: 8192, Rto: 600, Mean: 4800, Spread: 1200, Up: true, Sure: true})
	p.Beat(1, api.MaxTick)
	wantAnswer(t, p, 1, api.MaxTick, true, api.OK)
}

// P1: of nil.
func TestNil(t *testing.T) {
	var p *path.Path
	want(t, p, api.Way{})
	wantErr(t, "Sample", p.Sample(-1), api.ErrNil)
	wantErr(t, "Grow", p.Grow(-1, true, -1), api.ErrNil)
	wantErr(t, "Fast", p.Fast(), api.ErrNil)
	wantErr(t, "Good", p.Good(), api.ErrNil)
	wantErr(t, "Beat", p.Beat(0, -1), api.ErrNil)
	wantAnswer(t, p, 0, -1, false, api.ErrNil)
	for _, call := range []func() (bool, api.Errno){p.Late, p.Fault} {
		if down, e := call(); down || e != api.ErrNil {
			t.Errorf("%v, error %d", down, e)
		}
	}
	if p.Fork() != nil {
		t.Error("a Fork of nil")
	}
}

// P4: of a way and its Fork, what becomes of the one changes nothing of the other one.
func TestFork(t *testing.T) {
	p := make1(t, mtu)
	p.Sample(8)
	p.Beat(5, 10)
	q := p.Fork()
	stood := p.Stands()
	want(t, q, stood)
	q.Late()
	q.Sample(100)
	wantAnswer(t, q, 5, 20, true, api.OK)
	want(t, p, stood)
	wantAnswer(t, p, 5, 18, true, api.OK)
	r := p.Fork()
	wantAnswer(t, r, 5, 20, false, api.OK)
	r.Sample(16)
	if r.Stands() == p.Stands() {
		t.Error("one is both")
	}
	// That a time was measured is forked too.
	z := make1(t, mtu)
	z.Sample(0)
	y := z.Fork()
	y.Sample(20)
	z.Sample(20)
	want(t, y, z.Stands())
}

// P15.5: whatever is done, nothing goes beyond its limit.
func TestBounds(t *testing.T) {
	seed := uint64(1)
	draw := func(n int) int {
		seed += 0x9e3779b97f4a7c15
		z := (seed ^ seed>>30) * 0xbf58476d1ce4e5b9
		z = (z ^ z>>27) * 0x94d049bb133111eb
		return int((z ^ z>>31) % uint64(n))
	}
	for range 300 {
		size := 64 + draw(1437)
		p := make1(t, size)
		row := 0
		for range 400 {
			switch draw(9) {
			case 0:
				p.Sample(draw(1000))
			case 1, 2, 3, 4:
				p.Grow(draw(8193), draw(9) > 0, draw(8193))
			case 5:
				if draw(9) == 0 {
					p.Fast()
				}
			case 6:
				row++
				p.Late()
			case 7:
				row++
				p.Fault()
			case 8:
				row = 0
				p.Good()
			}
			w := p.Stands()
			if w.Rto < api.MinRto || w.Rto > api.MaxRto || w.Window < size || w.Window > 4*api.MaxSend || w.Slow < min(4*size, api.MaxSend) || w.Part < 0 {
				t.Fatalf("of mtu %d: %+v", size, w)
			}
			if w.Faults != row || w.Up != (row <= api.MaxFaults) {
				t.Fatalf("%d faults: %+v", row, w)
			}
		}
	}
}

// P15.3: a window stays at four times MaxSend. By calls alone it gets there only with a flight that is as great as it, so it never does: MaxSend and mtu is where it ends.
func TestWidest(t *testing.T) {
	p := make1(t, 1500)
	for range 100000 {
		p.Grow(8192, true, 8192)
	}
	want(t, p, api.Way{Window: 8904, Slow: 8192, Rto: 30, Part: 819200000 - 3*8192, Up: true})
}
