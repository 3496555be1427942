package world_test

import (
	"fmt"
	"testing"

	"trunkline/api"
	"trunkline/world"
)

// numbers is a row of numbers that look like chance and are the same each time.
func numbers(seed uint64) func(below int) int {
	return func(below int) int {
		seed += 0x9e3779b97f4a7c15
		z := (seed ^ seed>>30) * 0xbf58476d1ce4e5b9
		z = (z ^ z>>27) * 0x94d049bb133111eb
		return int((z ^ z>>31) >> 1 % uint64(below))
	}
}

func someBytes(below func(int) int, n int) []byte {
	b := make([]byte, n)
	for i := range b {
		b[i] = byte(below(256))
	}
	return b
}

// brief is the beginning of what x is.
func brief(x any) string {
	s := fmt.Sprintf("%+v", x)
	return s[:min(300, len(s))]
}

func newWorld(t *testing.T, mtu, ring, streams int, seed uint64) *world.World {
	t.Helper()
	w, e := world.New(mtu, ring, streams, seed)
	if e != api.OK || w == nil {
		t.Fatal("New:", e)
	}
	return w
}

// do does acts that must be OK, and is the last one's number.
func do(t *testing.T, w *world.World, acts ...api.Act) int {
	t.Helper()
	last := 0
	for _, a := range acts {
		n, e := w.Do(a)
		if e != api.OK {
			t.Fatalf("%s: error %d", brief(a), e)
		}
		last = n
	}
	return last
}

// wantErr does an act that must have an error.
func wantErr(t *testing.T, w *world.World, a api.Act, want api.Errno) {
	t.Helper()
	if n, e := w.Do(a); n != 0 || e != want {
		t.Fatalf("%s: %d, error %d; want %d", brief(a), n, e, want)
	}
}

// met is a world in which socket 1 of host 0 (port 9) and a socket of host 1 (accepted at port 5, by socket 1) are linked, whose number is told, and both were told so.
func met(t *testing.T, mtu, ring, streams int, seed uint64) (*world.World, int) {
	t.Helper()
	w := newWorld(t, mtu, ring, streams, seed)
	do(t, w,
		api.Act{Do: api.Bind, Host: 1, N: 5}, api.Act{Do: api.Listen, Host: 1, Id: 1},
		api.Act{Do: api.Bind, N: 9}, api.Act{Do: api.Connect, Id: 1, N: 5}, api.Act{Do: api.Calm, N: 3},
	)
	id := do(t, w, api.Act{Do: api.Accept, Host: 1, Id: 1})
	do(t, w, api.Act{Do: api.Hear, Id: 1}, api.Act{Do: api.Hear, Host: 1, Id: id})
	return w, id
}
