package world_test

import (
	"testing"

	"trunkline/api"
	"trunkline/host"
	"trunkline/judge"
	"trunkline/world"
)

// drain takes all that a socket of a host is told.
func drain(w *world.World, k, id int) {
	for _, d := range []api.Deed{api.Take, api.Hear} {
		for {
			if _, e := w.Do(api.Act{Do: d, Host: k, Id: id}); e != api.OK {
				break
			}
		}
	}
}

// calmly lets rounds pass in which all comes, and all that came is taken, by all sockets.
func calmly(t *testing.T, w *world.World, rounds int) {
	t.Helper()
	for range rounds {
		do(t, w, api.Act{Do: api.Calm, N: 1})
		for k := range 2 {
			for id := range api.MaxSocks {
				drain(w, k, id+1)
			}
		}
	}
}

// roughly does acts of the lines and of two linked sockets. Of frames that come so many in a hundred are lost, and a tenth stays under way to come again; others overtake them.
func roughly(w *world.World, below func(int) int, ids [2]int, acts, loss int) {
	for range acts {
		a := someAct(below, ids)
		switch a.Do {
		case api.Lift:
			for range below(4) {
				w.Do(a)
			}
		case api.Land, api.Drop:
			land := api.Act{Do: api.Land, N: below(4)}
			if below(100) >= loss {
				w.Do(land)
			}
			if below(10) > 0 {
				w.Do(api.Act{Do: api.Drop, N: land.N})
			}
		default:
			w.Do(a)
		}
	}
}

// wantJudged: may a world's trace be?
func wantJudged(t *testing.T, seed uint64, w *world.World) []api.Mark {
	t.Helper()
	l := w.Trace()
	if n, e := judge.Judge(l); e != api.OK || n != len(l) {
		t.Fatalf("%d: mark %d: error %d: %s", seed, n, e, brief(l[n]))
	}
	return l
}

// owed is how much two linked sides owe each other.
func owed(t *testing.T, w *world.World, l []api.Mark) int {
	t.Helper()
	own, peer, e := w.Host(0).Tags(1)
	a, ok := judge.Owed(l, 0, own, peer)
	b, is := judge.Owed(l, 1, peer, own)
	if e != api.OK || !ok || !is {
		t.Fatal("what is owed", e, ok, is)
	}
	return a + b
}

// someWorld is a world of any settings, in which two are linked.
func someWorld(t *testing.T, below func(int) int, seed uint64) (*world.World, [2]int) {
	t.Helper()
	mtu, ring := api.MinMtu+below(api.MaxBody-api.MinMtu+1), 1+below(api.MaxRing)
	if below(2) == 0 {
		mtu = api.MinMtu + below(60)
	}
	if below(2) == 0 {
		ring = 1 + below(4)
	}
	w, id := met(t, mtu, ring, 1+below(api.MaxStreams), seed)
	return w, [2]int{1, id}
}

// T1, T2: whatever the lines lose, double, turn or let overtake, what is told is what was sent; and once all comes, all is told.
func TestAllIsTold(t *testing.T) {
	told := 0
	for seed := range uint64(120) {
		below := numbers(seed)
		w, ids := someWorld(t, below, seed)
		roughly(w, below, ids, below(3000), below(30))
		calmly(t, w, 2500)
		l := wantJudged(t, seed, w)
		for k, id := range ids {
			wantState(t, w.Host(k), id, api.Established)
		}
		if n := owed(t, w, l); n > 0 {
			t.Fatal(seed, "owed", n)
		}
		told += len(l)
	}
	if told < 10000 {
		t.Fatal("too little was told:", told)
	}
}

// ends are what each host was told of an end.
func ends(l []api.Mark) [2][]api.Notice {
	var out [2][]api.Notice
	for _, m := range l {
		if m.Is == api.Told && m.Notice != api.Came {
			out[m.Host] = append(out[m.Host], m.Notice)
		}
	}
	return out
}

func areClosed(w *world.World, ids [2]int) bool {
	a, _ := w.Host(0).State(ids[0])
	b, _ := w.Host(1).State(ids[1])
	return a == api.Closed && b == api.Closed
}

// T4: behind a shutdown all that was sent ahead is told, and both sides are told that it is done; else each is told once how it ended.
func TestShutdownLosesNothing(t *testing.T) {
	done := 0
	for seed := range uint64(120) {
		below := numbers(seed + 1000)
		w, ids := someWorld(t, below, seed)
		loss := below(40)
		roughly(w, below, ids, below(2000), loss)
		first, both := below(2), below(2) == 0
		for k, id := range ids {
			if both || k == first {
				w.Do(api.Act{Do: api.Shut, Host: k, Id: id})
			}
		}
		roughly(w, below, ids, below(800), loss)
		for range 8 {
			if calmly(t, w, 1000); areClosed(w, ids) {
				break
			}
		}
		l := wantJudged(t, seed, w)
		x := ends(l)
		if !areClosed(w, ids) || len(x[0]) != 1 || len(x[1]) != 1 {
			t.Fatal(seed, "ends", x)
		}
		if x[0][0] != api.Done || x[1][0] != api.Done {
			continue
		}
		done++
		if n := owed(t, w, l); n > 0 {
			t.Fatal(seed, "owed", n)
		}
	}
	if done < 117 {
		t.Fatal("too few are done:", done)
	}
}

// livelyAct is any act of sockets, or of lines.
func livelyAct(below func(int) int) api.Act {
	id := 1 + below(api.MaxSocks)
	a := api.Act{Host: below(2), Id: id, N: 1 + below(4)}
	switch below(40) {
	case 0, 1, 2, 3:
		a.Do = api.Bind
	case 4, 5:
		a.Do = api.Listen
	case 6, 7, 8:
		a.Do = api.Connect
	case 9, 10:
		a.Do = api.Accept
	case 11:
		a.Do = []api.Deed{api.Shut, api.Kill, api.Free, api.Hear, api.Hear}[below(5)]
	case 12:
		a.Do = api.Hear
	case 13:
		a.Do, a.N = api.Calm, 1+below(3)*below(20)
	default:
		a = someAct(below, [2]int{id, id})
	}
	return a
}

// wantPairsTold: is all told between the two sides of each association that is there? It is how many there are.
func wantPairsTold(t *testing.T, seed uint64, w *world.World, l []api.Mark) int {
	t.Helper()
	sides := [2]map[[2]uint32]bool{{}, {}}
	for k := range 2 {
		for id := range api.MaxSocks {
			if s, e := w.Host(k).State(id + 1); e == api.OK && s == api.Established {
				own, peer, _ := w.Host(k).Tags(id + 1)
				sides[k][[2]uint32{own, peer}] = true
			}
		}
	}
	n := 0
	for tags := range sides[0] {
		if !sides[1][[2]uint32{tags[1], tags[0]}] {
			continue
		}
		n++
		a, _ := judge.Owed(l, 0, tags[0], tags[1])
		b, _ := judge.Owed(l, 1, tags[1], tags[0])
		if a+b > 0 {
			t.Fatal(seed, "owed", a, b)
		}
	}
	return n
}

// T1, T4, T5: sockets come and go on lines on which frames are lost, doubled, turned and overtaken.
func TestLife(t *testing.T) {
	stands, marks := 0, 0
	for seed := range uint64(200) {
		below := numbers(seed + 2000)
		w := newWorld(t, api.MinMtu+below(600), 1+below(32), 1+below(8), seed)
		for range below(5000) {
			w.Do(livelyAct(below))
			for k := range 2 {
				wantBounds(t, w.Host(k))
			}
		}
		for k := range 2 { // what waits is accepted
			for range api.MaxSocks {
				for id := range api.MaxSocks {
					w.Do(api.Act{Do: api.Accept, Host: k, Id: id + 1})
				}
			}
		}
		calmly(t, w, 1500)
		l := wantJudged(t, seed, w)
		marks += len(l)
		stands += wantPairsTold(t, seed, w, l)
	}
	if stands < 50 || marks < 5000 {
		t.Fatal("too little lives:", stands, marks)
	}
}

func wantBounds(t *testing.T, h *host.Host) {
	t.Helper()
	socks, held, frames := h.Used()
	if socks > api.MaxSocks || held > api.MaxReasm || frames > 4*api.MaxRing || len(h.Near(0)) > api.MaxArp {
		t.Fatal("too much:", socks, held, frames)
	}
}

// T2: an inbox that nobody takes from fills up; when it is taken from, all goes on.
func TestNobodyTakes(t *testing.T) {
	for seed := range uint64(15) {
		below := numbers(seed + 3000)
		w, ids := someWorld(t, below, seed)
		for range 150 {
			for k, id := range ids {
				w.Do(api.Act{Do: api.Push, Host: k, Id: id, Msg: api.Msg{Free: below(2) == 0, Data: someBytes(below, 1+below(300))}})
			}
			do(t, w, api.Act{Do: api.Calm, N: 1 + below(9)})
		}
		do(t, w, api.Act{Do: api.Calm, N: 2000})
		if n := owed(t, w, wantJudged(t, seed, w)); n < api.MaxInbox {
			t.Fatal("it was never full:", n)
		}
		calmly(t, w, 2000)
		for k, id := range ids {
			wantState(t, w.Host(k), id, api.Established)
		}
		if n := owed(t, w, wantJudged(t, seed, w)); n > 0 {
			t.Fatal(seed, "owed", n)
		}
	}
}
