package octet_test

import (
	"bytes"
	"encoding/binary"
	"math"
	"testing"

	"trunkline/api"
	"trunkline/octet"
)

// far are numbers that no place and no count can be.
var far = []int{math.MinInt, math.MinInt32, -2, -1, math.MaxInt32, math.MaxInt - 1, math.MaxInt}

// draws is a row of numbers that look like chance and are the same each time.
func draws(seed uint64) func() uint64 {
	return func() uint64 {
		seed += 0x9e3779b97f4a7c15
		z := (seed ^ seed>>30) * 0xbf58476d1ce4e5b9
		z = (z ^ z>>27) * 0x94d049bb133111eb
		return z ^ z>>31
	}
}

func drawBytes(draw func() uint64, n int) []byte {
	b := make([]byte, n)
	for i := range b {
		b[i] = byte(draw())
	}
	return b
}

// wantBytes holds an answer of a list against what is asked: beside an error the list must be empty.
func wantBytes(t *testing.T, name string, got []byte, e api.Errno, want []byte, wantErr api.Errno) {
	t.Helper()
	if e != wantErr || !bytes.Equal(got, want) {
		t.Errorf("%s: % x, error %d; want % x, error %d", name, got, e, want, wantErr)
	}
}

// P1.1, Num: what it answers and which error comes first.
func TestNum(t *testing.T) {
	ten := []byte{0x12, 0x34, 0x56, 0x78, 0x9a, 0xbc, 0xde, 0xf0, 0xff, 0x01}
	for _, c := range []struct {
		name  string
		b     []byte
		at, n int
		v     uint64
		e     api.Errno
	}{
		{"one byte", ten, 0, 1, 0x12, api.OK},
		{"two bytes", ten, 1, 2, 0x3456, api.OK},
		{"seven bytes", ten, 3, 7, 0x789abcdef0ff01, api.OK},
		{"eight bytes", ten, 0, 8, 0x123456789abcdef0, api.OK},
		{"the last eight", ten, 2, 8, 0x56789abcdef0ff01, api.OK},
		{"the last one", ten, 9, 1, 1, api.OK},
		{"all ones", bytes.Repeat([]byte{0xff}, 8), 0, 8, math.MaxUint64, api.OK},
		{"no width", ten, 0, 0, 0, api.ErrArg},
		{"nine bytes", ten, 0, 9, 0, api.ErrArg},
		{"nine bytes where there are fewer", ten, 5, 9, 0, api.ErrArg},
		{"no width at the end", ten, 10, 0, 0, api.ErrArg},
		{"ahead", ten, -1, 1, 0, api.ErrArg},
		{"at the end", ten, 10, 1, 0, api.ErrShort},
		{"beyond the end", ten, 11, 1, 0, api.ErrArg},
		{"one too few", ten, 3, 8, 0, api.ErrShort},
		{"one too few of two", ten, 9, 2, 0, api.ErrShort},
		{"nil", nil, 0, 1, 0, api.ErrShort},
		{"nil, beyond", nil, 1, 1, 0, api.ErrArg},
		{"nil, no width", nil, 0, 0, 0, api.ErrArg},
	} {
		if v, e := octet.Num(c.b, c.at, c.n); v != c.v || e != c.e {
			t.Errorf("%s: %x, error %d; want %x, error %d", c.name, v, e, c.v, c.e)
		}
	}
	for _, x := range far {
		for _, b := range [][]byte{nil, ten} {
			if v, e := octet.Num(b, x, 1); v != 0 || e != api.ErrArg {
				t.Errorf("at %d: %d, error %d", x, v, e)
			}
			if v, e := octet.Num(b, 0, x); v != 0 || e != api.ErrArg {
				t.Errorf("n %d: %d, error %d", x, v, e)
			}
		}
	}
}

// P1.1, Num and Set: spare room behind the end of a list is no part of it.
func TestSpareRoomIsNoPart(t *testing.T) {
	b := []byte{1, 2, 3, 4}[:2]
	if v, e := octet.Num(b, 1, 2); v != 0 || e != api.ErrShort {
		t.Errorf("Num: %d, error %d", v, e)
	}
	got, e := octet.Set(b, 1, 7, 2)
	wantBytes(t, "Set", got, e, nil, api.ErrShort)
	got, e = octet.Cut(b, 1, 2)
	wantBytes(t, "Cut", got, e, nil, api.ErrShort)
}

// P1.1, Bytes: just as many bytes as are needed, and one more.
func TestBytes(t *testing.T) {
	got, e := octet.Bytes(258, 3)
	wantBytes(t, "the example", got, e, []byte{0, 1, 2}, api.OK)
	got, e = octet.Bytes(0, 1)
	wantBytes(t, "0", got, e, []byte{0}, api.OK)
	got, e = octet.Bytes(1, 8)
	wantBytes(t, "1 in eight", got, e, []byte{0, 0, 0, 0, 0, 0, 0, 1}, api.OK)
	got, e = octet.Bytes(math.MaxUint64, 8)
	wantBytes(t, "the greatest", got, e, bytes.Repeat([]byte{0xff}, 8), api.OK)
	got, e = octet.Bytes(math.MaxUint64, 7)
	wantBytes(t, "the greatest in seven", got, e, nil, api.ErrLimit)
	for n := 1; n < 8; n++ {
		more := uint64(1) << (8 * n)
		got, e = octet.Bytes(more-1, n)
		wantBytes(t, "just as many", got, e, bytes.Repeat([]byte{0xff}, n), api.OK)
		got, e = octet.Bytes(more, n)
		wantBytes(t, "one more", got, e, nil, api.ErrLimit)
		got, e = octet.Bytes(more, n+1)
		wantBytes(t, "in one more", got, e, append([]byte{1}, make([]byte, n)...), api.OK)
	}
	for _, n := range append([]int{0, 9}, far...) {
		for _, v := range []uint64{0, 1, math.MaxUint64} {
			got, e = octet.Bytes(v, n)
			wantBytes(t, "no width", got, e, nil, api.ErrArg)
		}
	}
}

// P1.1, Set: what it answers and which error comes first.
func TestSet(t *testing.T) {
	five := []byte{1, 2, 3, 4, 5}
	for _, c := range []struct {
		name string
		b    []byte
		at   int
		v    uint64
		n    int
		want []byte
		e    api.Errno
	}{
		{"one byte", five, 1, 7, 1, []byte{1, 7, 3, 4, 5}, api.OK},
		{"the first", five, 0, 0xa0b, 2, []byte{0x0a, 0x0b, 3, 4, 5}, api.OK},
		{"the last", five, 3, 0xffff, 2, []byte{1, 2, 3, 0xff, 0xff}, api.OK},
		{"all", five, 0, 0x1122334455, 5, []byte{0x11, 0x22, 0x33, 0x44, 0x55}, api.OK},
		{"a small number in more bytes", five, 1, 9, 3, []byte{1, 0, 0, 9, 5}, api.OK},
		{"eight", make([]byte, 8), 0, math.MaxUint64, 8, bytes.Repeat([]byte{0xff}, 8), api.OK},
		{"too great", five, 0, 256, 1, nil, api.ErrLimit},
		{"too great for two", five, 3, 1 << 16, 2, nil, api.ErrLimit},
		{"no width", five, 0, 0, 0, nil, api.ErrArg},
		{"nine bytes", make([]byte, 20), 0, 0, 9, nil, api.ErrArg},
		{"nine bytes where there are fewer", five, 0, 0, 9, nil, api.ErrArg},
		{"ahead", five, -1, 0, 1, nil, api.ErrArg},
		{"ahead, and too great", five, -1, 256, 1, nil, api.ErrArg},
		{"at the end", five, 5, 0, 1, nil, api.ErrShort},
		{"at the end, and too great", five, 5, 256, 1, nil, api.ErrShort},
		{"beyond the end", five, 6, 0, 1, nil, api.ErrArg},
		{"one too few", five, 3, 0, 3, nil, api.ErrShort},
		{"nil", nil, 0, 0, 1, nil, api.ErrShort},
		{"nil, beyond", nil, 1, 0, 1, nil, api.ErrArg},
	} {
		got, e := octet.Set(c.b, c.at, c.v, c.n)
		wantBytes(t, c.name, got, e, c.want, c.e)
	}
	for _, x := range far {
		got, e := octet.Set(five, x, math.MaxUint64, 1)
		wantBytes(t, "a far place", got, e, nil, api.ErrArg)
		got, e = octet.Set(five, 0, math.MaxUint64, x)
		wantBytes(t, "a far width", got, e, nil, api.ErrArg)
	}
}

// P1.2, Cut: what it answers and which error comes first.
func TestCut(t *testing.T) {
	five := []byte{1, 2, 3, 4, 5}
	for _, c := range []struct {
		name  string
		b     []byte
		at, n int
		want  []byte
		e     api.Errno
	}{
		{"all", five, 0, 5, five, api.OK},
		{"some", five, 1, 3, []byte{2, 3, 4}, api.OK},
		{"the last", five, 4, 1, []byte{5}, api.OK},
		{"none", five, 2, 0, nil, api.OK},
		{"none at the end", five, 5, 0, nil, api.OK},
		{"one at the end", five, 5, 1, nil, api.ErrShort},
		{"one too few", five, 2, 4, nil, api.ErrShort},
		{"as many as an int holds", five, 1, math.MaxInt, nil, api.ErrShort},
		{"ahead", five, -1, 1, nil, api.ErrArg},
		{"ahead, none", five, -1, 0, nil, api.ErrArg},
		{"beyond the end", five, 6, 0, nil, api.ErrArg},
		{"beyond the end, too many", five, 6, 9, nil, api.ErrArg},
		{"fewer than none", five, 2, -1, nil, api.ErrArg},
		{"fewer than none at the end", five, 5, -1, nil, api.ErrArg},
		{"nil", nil, 0, 0, nil, api.OK},
		{"nil, one", nil, 0, 1, nil, api.ErrShort},
		{"nil, beyond", nil, 1, 0, nil, api.ErrArg},
	} {
		got, e := octet.Cut(c.b, c.at, c.n)
		wantBytes(t, c.name, got, e, c.want, c.e)
	}
	for _, x := range far {
		got, e := octet.Cut(five, x, x)
		wantBytes(t, "a far place", got, e, nil, api.ErrArg)
		if x < 0 {
			got, e = octet.Cut(five, 0, x)
			wantBytes(t, "far fewer than none", got, e, nil, api.ErrArg)
		} else {
			got, e = octet.Cut(five, 5, x)
			wantBytes(t, "far too many", got, e, nil, api.ErrShort)
		}
	}
}

// P1.2, Pad: as few bytes 0 as make a multiple.
func TestPad(t *testing.T) {
	for _, c := range []struct {
		name string
		b    []byte
		to   int
		want []byte
		e    api.Errno
	}{
		{"three more", []byte{1, 2, 3, 4, 5}, 4, []byte{1, 2, 3, 4, 5, 0, 0, 0}, api.OK},
		{"one more", []byte{1, 2, 3}, 4, []byte{1, 2, 3, 0}, api.OK},
		{"a multiple", []byte{1, 2, 3, 4}, 4, []byte{1, 2, 3, 4}, api.OK},
		{"of one", []byte{1, 2, 3}, 1, []byte{1, 2, 3}, api.OK},
		{"none", []byte{}, 4, nil, api.OK},
		{"nil", nil, 64, nil, api.OK},
		{"the greatest", []byte{9}, api.MaxPad, append([]byte{9}, make([]byte, 63)...), api.OK},
		{"one more than that", []byte{9}, api.MaxPad + 1, nil, api.ErrArg},
		{"nothing", []byte{9}, 0, nil, api.ErrArg},
		{"nothing, of nil", nil, 0, nil, api.ErrArg},
	} {
		got, e := octet.Pad(c.b, c.to)
		wantBytes(t, c.name, got, e, c.want, c.e)
	}
	for _, to := range far {
		got, e := octet.Pad([]byte{1, 2, 3}, to)
		wantBytes(t, "a far number", got, e, nil, api.ErrArg)
	}
	for size := 0; size <= 130; size++ {
		b := bytes.Repeat([]byte{0xee}, size)
		for to := 1; to <= api.MaxPad; to++ {
			got, e := octet.Pad(b, to)
			if e != api.OK || len(got)%to != 0 || len(got) < size || len(got)-size >= to {
				t.Fatalf("%d bytes to %d: %d bytes, error %d", size, to, len(got), e)
			}
			if !bytes.Equal(got[:size], b) || !bytes.Equal(got[size:], make([]byte, len(got)-size)) {
				t.Fatalf("%d bytes to %d: % x", size, to, got)
			}
		}
	}
}

// P1.5: Num of Bytes is the number, Bytes of Num are the bytes.
func TestNumAndBytesAreTheOthersWayBack(t *testing.T) {
	draw := draws(15)
	for range 2000 {
		n := int(draw()%8) + 1
		v := draw() >> (64 - 8*n)
		b, e := octet.Bytes(v, n)
		if e != api.OK || len(b) != n {
			t.Fatalf("%x in %d bytes: % x, error %d", v, n, b, e)
		}
		if back, e := octet.Num(b, 0, n); e != api.OK || back != v {
			t.Fatalf("%x in %d bytes came back as %x, error %d", v, n, back, e)
		}
		whole := make([]byte, 8)
		binary.BigEndian.PutUint64(whole, v)
		wantBytes(t, "the highest first", b, e, whole[8-n:], api.OK)

		row := drawBytes(draw, 12)
		at := int(draw() % uint64(len(row)-n+1))
		num, e := octet.Num(row, at, n)
		if e != api.OK {
			t.Fatal("a number of a row: error", e)
		}
		b, e = octet.Bytes(num, n)
		wantBytes(t, "bytes of a number", b, e, row[at:at+n], api.OK)
	}
}

// P1.5: Set changes these bytes alone.
func TestSetChangesTheseBytesAlone(t *testing.T) {
	draw := draws(16)
	for range 2000 {
		n := int(draw()%8) + 1
		v := draw() >> (64 - 8*n)
		row := drawBytes(draw, n+int(draw()%6))
		at := int(draw() % uint64(len(row)-n+1))
		got, e := octet.Set(row, at, v, n)
		if e != api.OK || len(got) != len(row) {
			t.Fatalf("% x, error %d", got, e)
		}
		if !bytes.Equal(got[:at], row[:at]) || !bytes.Equal(got[at+n:], row[at+n:]) {
			t.Fatalf("others are changed: % x became % x", row, got)
		}
		if back, e := octet.Num(got, at, n); e != api.OK || back != v {
			t.Fatalf("%x was set, %x is there, error %d", v, back, e)
		}
	}
}

// P1.5: two numbers in as many bytes stand in the order of their bytes.
func TestNumbersStandInTheOrderOfTheirBytes(t *testing.T) {
	draw := draws(17)
	for range 2000 {
		n := int(draw()%8) + 1
		v, w := draw()>>(64-8*n), draw()>>(64-8*n)
		if draw()%4 == 0 {
			w = v ^ 1
		}
		a, _ := octet.Bytes(v, n)
		b, _ := octet.Bytes(w, n)
		if (v < w) != (bytes.Compare(a, b) < 0) || (v == w) != bytes.Equal(a, b) {
			t.Fatalf("%x and %x in %d bytes: % x and % x", v, w, n, a, b)
		}
	}
}

// P3: what is handed in stays as it is, its spare room too, and what is answered is new memory.
func TestAnswersAreNewMemory(t *testing.T) {
	calls := map[string]func(b []byte) ([]byte, api.Errno){
		"Set":          func(b []byte) ([]byte, api.Errno) { return octet.Set(b, 1, 0xaabb, 2) },
		"Set, all":     func(b []byte) ([]byte, api.Errno) { return octet.Set(b, 0, 0, 4) },
		"Cut, all":     func(b []byte) ([]byte, api.Errno) { return octet.Cut(b, 0, 4) },
		"Cut, some":    func(b []byte) ([]byte, api.Errno) { return octet.Cut(b, 1, 2) },
		"Cut, none":    func(b []byte) ([]byte, api.Errno) { return octet.Cut(b, 1, 0) },
		"Pad, more":    func(b []byte) ([]byte, api.Errno) { return octet.Pad(b, 8) },
		"Pad, no more": func(b []byte) ([]byte, api.Errno) { return octet.Pad(b, 4) },
	}
	for name, call := range calls {
		room := []byte{1, 2, 3, 4, 0xe1, 0xe2, 0xe3, 0xe4, 0xe5}
		as := bytes.Clone(room)
		got, e := call(room[:4])
		if e != api.OK || !bytes.Equal(room, as) {
			t.Fatalf("%s: error %d, what was handed in became % x", name, e, room)
		}
		was := bytes.Clone(got)
		other, _ := call(room[:4])
		fill(other, 0x77)
		if !bytes.Equal(room, as) {
			t.Errorf("%s: the answer lies in what was handed in", name)
		}
		if !bytes.Equal(got, was) {
			t.Errorf("%s: two answers lie in one memory", name)
		}
		fill(room, 0x88)
		if !bytes.Equal(got, was) {
			t.Errorf("%s: what was handed in is kept as the answer", name)
		}
	}
}

// fill lays x over all of a list, its spare room too.
func fill(b []byte, x byte) {
	b = b[:cap(b)]
	for i := range b {
		b[i] = x
	}
}

// P3: calls that answer an error leave what was handed in as it is, too.
func TestErrorsChangeNothing(t *testing.T) {
	room := []byte{1, 2, 3, 4, 0xe1, 0xe2, 0xe3, 0xe4}
	as := bytes.Clone(room)
	octet.Set(room[:4], 3, 7, 2)
	octet.Set(room[:4], 3, 256, 1)
	octet.Set(room[:4], 5, 7, 1)
	octet.Cut(room[:4], 3, 2)
	octet.Pad(room[:4], 65)
	if !bytes.Equal(room, as) {
		t.Errorf("what was handed in became % x", room)
	}
}
