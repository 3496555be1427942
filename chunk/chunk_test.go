package chunk_test

import (
	"bytes"
	"encoding/hex"
	"fmt"
	"slices"
	"testing"

	"trunkline/api"
	"trunkline/chunk"
)

// draws is a row of numbers that look like chance and are the same each time.
func draws(seed uint64) func() uint64 {
	return func() uint64 {
		seed += 0x9e3779b97f4a7c15
		z := (seed ^ seed>>30) * 0xbf58476d1ce4e5b9
		z = (z ^ z>>27) * 0x94d049bb133111eb
		return z ^ z>>31
	}
}

func drawBytes(draw func() uint64, n int) []byte {
	b := make([]byte, n)
	for i := range b {
		b[i] = byte(draw())
	}
	return b
}

// brief is the beginning of what x is.
func brief(x any) string {
	s := fmt.Sprintf("%+v", x)
	return s[:min(300, len(s))]
}

func sameParam(a, b api.Param) bool { return a.Kind == b.Kind && bytes.Equal(a.Value, b.Value) }

func same(a, b api.Chunk) bool {
	lists := slices.Equal(a.Blocks, b.Blocks) && slices.Equal(a.Dups, b.Dups) && slices.EqualFunc(a.Params, b.Params, sameParam) && bytes.Equal(a.Data, b.Data)
	return lists && a.Type == b.Type && a.Flags == b.Flags && a.TSN == b.TSN && a.Stream == b.Stream && a.SSN == b.SSN && a.PPID == b.PPID && a.Tag == b.Tag && a.Room == b.Room && a.Outs == b.Outs && a.Ins == b.Ins
}

func wantCheck(t *testing.T, name string, c api.Chunk, want api.Errno) {
	t.Helper()
	if e := chunk.Check(c); e != want {
		t.Errorf("%s: Check(%s): error %d; want %d", name, brief(c), e, want)
	}
	if n := chunk.Size(c); want != api.OK && n != 0 {
		t.Errorf("%s: Size(%s): %d of one that may not be", name, brief(c), n)
	}
	if b, e := chunk.Put(api.Head{}, []api.Chunk{c}); e != want || e != api.OK && len(b) > 0 {
		t.Errorf("%s: Put(%s): %d bytes, error %d; want error %d", name, brief(c), len(b), e, want)
	}
}

func wantSize(t *testing.T, name string, c api.Chunk, want int) {
	t.Helper()
	if n := chunk.Size(c); n != want {
		t.Errorf("%s: Size(%s): %d; want %d", name, brief(c), n, want)
	}
}

func wantPut(t *testing.T, name string, h api.Head, l []api.Chunk, want []byte, wantErr api.Errno) {
	t.Helper()
	if b, e := chunk.Put(h, l); e != wantErr || !bytes.Equal(b, want) {
		t.Errorf("%s: Put(%+v, %s): % x, error %d; want % x, error %d", name, h, brief(l), b, e, want, wantErr)
	}
}

func wantTake(t *testing.T, name string, b []byte, h api.Head, l []api.Chunk, wantErr api.Errno) {
	t.Helper()
	if g, m, e := chunk.Take(b); e != wantErr || g != h || !slices.EqualFunc(m, l, same) {
		t.Errorf("%s: Take(% .60x): %+v, %s, error %d; want %+v, %s, error %d", name, b, g, brief(m), e, h, brief(l), wantErr)
	}
}

func wantTakeErr(t *testing.T, name string, b []byte, want api.Errno) {
	t.Helper()
	wantTake(t, name, b, api.Head{}, nil, want)
}

// unhex is the bytes of hexadecimal digits, with spaces between.
func unhex(s string) []byte {
	b, err := hex.DecodeString(string(bytes.ReplaceAll([]byte(s), []byte(" "), nil)))
	if err != nil {
		panic(err)
	}
	return b
}

// written are chunks of all kinds of values, and their bytes, by hand.
var written = []struct {
	name  string
	chunk api.Chunk
	bytes string
}{
	{"Data", api.Chunk{Type: 0, Flags: 3, TSN: 0x01020304, Stream: 0x0506, SSN: 0x0708, PPID: 0x090a0b0c, Data: []byte{0xd1}}, "00 03 0011 01020304 0506 0708 090a0b0c d1 000000"},
	{"Data of two", api.Chunk{Type: 0, Data: []byte{1, 2}}, "00 00 0012 00000000 0000 0000 00000000 0102 0000"},
	{"Data of three", api.Chunk{Type: 0, Data: []byte{1, 2, 3}}, "00 00 0013 00000000 0000 0000 00000000 010203 00"},
	{"Data of four", api.Chunk{Type: 0, Data: []byte{1, 2, 3, 4}}, "00 00 0014 00000000 0000 0000 00000000 01020304"},
	{"Init", api.Chunk{Type: 1, Tag: 0x01020304, Room: 0x05060708, Outs: 0x090a, Ins: 0x0b0c, TSN: 0x0d0e0f10}, "01 00 0014 01020304 05060708 090a 0b0c 0d0e0f10"},
	{"InitAck with parameters", api.Chunk{Type: 2, Flags: 255, Tag: 1, Room: 2, Outs: 3, Ins: 4, TSN: 5, Params: []api.Param{{Kind: 7, Value: []byte{1}}, {Kind: 0x8008}, {Kind: 9, Value: []byte{1, 2}}}}, "02 ff 0026 00000001 00000002 0003 0004 00000005 0007 0005 01 000000 8008 0004 0009 0006 0102 0000"},
	{"Sack", api.Chunk{Type: 3, TSN: 0x01020304, Room: 0x05060708}, "03 00 0010 01020304 05060708 0000 0000"},
	{"Sack with lists", api.Chunk{Type: 3, TSN: 1, Room: 2, Blocks: [][2]uint16{{3, 0x0405}, {6, 7}}, Dups: []uint32{0x08090a0b, 9, 8}}, "03 00 0024 00000001 00000002 0002 0003 0003 0405 0006 0007 08090a0b 00000009 00000008"},
	{"Heartbeat", api.Chunk{Type: 4, Params: []api.Param{{Kind: 1, Value: []byte{1, 2, 3, 4, 5, 6, 7}}}}, "04 00 000f 0001 000b 01020304050607 00"},
	{"HeartbeatAck", api.Chunk{Type: 5, Params: []api.Param{{Kind: 1, Value: []byte{1, 2, 3, 4}}}}, "05 00 000c 0001 0008 01020304"},
	{"Abort", api.Chunk{Type: 6, Flags: 1}, "06 01 0004"},
	{"Shutdown", api.Chunk{Type: 7, TSN: 0xfffefdfc}, "07 00 0008 fffefdfc"},
	{"ShutdownAck", api.Chunk{Type: 8}, "08 00 0004"},
	{"Error", api.Chunk{Type: 9, Params: []api.Param{{Kind: 0xfffe}, {Kind: 0}}}, "09 00 000c fffe 0004 0000 0004"},
	{"CookieEcho", api.Chunk{Type: 10, Data: []byte{1, 2, 3, 4, 5}}, "0a 00 0009 0102030405 000000"},
	{"CookieEcho of none", api.Chunk{Type: 10}, "0a 00 0004"},
	{"CookieAck", api.Chunk{Type: 11}, "0b 00 0004"},
	{"kind 12", api.Chunk{Type: 12, Data: []byte{1}}, "0c 00 0005 01 000000"},
	{"kind 13", api.Chunk{Type: 13}, "0d 00 0004"},
	{"ShutdownComplete", api.Chunk{Type: 14, Flags: 1}, "0e 01 0004"},
	{"kind 15", api.Chunk{Type: 15, Data: []byte{1, 2}}, "0f 00 0006 0102 0000"},
	{"kind 255", api.Chunk{Type: 255, Flags: 128, Data: []byte{1, 2, 3, 4}}, "ff 80 0008 01020304"},
}

// P12.1 and P12.2: the bytes of each kind of chunk, both ways, and its Size.
func TestBytes(t *testing.T) {
	h := api.Head{From: 0x0102, To: 0x0304, Tag: 0x05060708}
	head := "0102 0304 05060708 00000000"
	var all []api.Chunk
	bytesOfAll := unhex(head)
	for _, x := range written {
		b := stamp(append(unhex(head), unhex(x.bytes)...))
		l := []api.Chunk{x.chunk}
		wantCheck(t, x.name, x.chunk, api.OK)
		wantSize(t, x.name, x.chunk, len(b)-12)
		wantPut(t, x.name, h, l, b, api.OK)
		wantTake(t, x.name, b, h, l, api.OK)
		all, bytesOfAll = append(all, x.chunk), append(bytesOfAll, unhex(x.bytes)...)
	}
	wantPut(t, "all", h, all, stamp(bytesOfAll), api.OK)
	wantTake(t, "all", stamp(bytesOfAll), h, all, api.OK)
	wantPut(t, "an empty head", api.Head{}, []api.Chunk{{Type: 11}}, stamp(unhex("0000 0000 00000000 00000000 0b000004")), api.OK)
}

// Examples 1 and 2 of the chapter.
func TestExamples(t *testing.T) {
	b, e := chunk.Put(api.Head{}, []api.Chunk{{Type: api.CookieAck}})
	if e != api.OK || len(b) != 16 || !bytes.Equal(b[12:], []byte{0x0b, 0, 0, 4}) {
		t.Errorf("a CookieAck: % x, error %d", b, e)
	}
	wantSize(t, "Data of one byte", api.Chunk{Type: api.Data, Data: []byte{1}}, 20)
}

// fields are a chunk's, each as a way to have it not be zero.
var fields = []struct {
	name string
	set  func(c *api.Chunk)
}{
	{"TSN", func(c *api.Chunk) { c.TSN = 1 << 31 }},
	{"Stream", func(c *api.Chunk) { c.Stream = 1 }},
	{"SSN", func(c *api.Chunk) { c.SSN = 1 << 15 }},
	{"PPID", func(c *api.Chunk) { c.PPID = 1 }},
	{"Tag", func(c *api.Chunk) { c.Tag = 1 << 31 }},
	{"Room", func(c *api.Chunk) { c.Room = 1 }},
	{"Outs", func(c *api.Chunk) { c.Outs = 1 << 15 }},
	{"Ins", func(c *api.Chunk) { c.Ins = 1 }},
	{"Blocks", func(c *api.Chunk) { c.Blocks = make([][2]uint16, 1) }},
	{"Dups", func(c *api.Chunk) { c.Dups = make([]uint32, 1) }},
	{"Params", func(c *api.Chunk) { c.Params = make([]api.Param, 1) }},
	{"Data", func(c *api.Chunk) { c.Data = make([]byte, 1) }},
}

// valued are the fields that a kind's value has.
func valued(kind int) []string {
	switch kind {
	case 0:
		return []string{"TSN", "Stream", "SSN", "PPID", "Data"}
	case 1, 2:
		return []string{"Tag", "Room", "Outs", "Ins", "TSN", "Params"}
	case 3:
		return []string{"TSN", "Room", "Blocks", "Dups"}
	case 4, 5, 6, 9:
		return []string{"Params"}
	case 7:
		return []string{"TSN"}
	case 8, 11, 14:
		return nil
	}
	return []string{"Data"}
}

// P12.1, Check: of each kind, each field that is not in its value must be zero.
func TestCheckOfFields(t *testing.T) {
	for kind := range 256 {
		whole := api.Chunk{Type: uint8(kind), Flags: uint8(kind * 7)}
		for _, f := range fields {
			if slices.Contains(valued(kind), f.name) {
				f.set(&whole)
			}
		}
		wantCheck(t, "all that is in it", whole, api.OK)
		for _, f := range fields {
			bare := api.Chunk{Type: uint8(kind)}
			if kind == 0 {
				bare.Data = []byte("x")
			}
			for _, c := range []api.Chunk{bare, whole} {
				f.set(&c)
				want := api.ErrArg
				if slices.Contains(valued(kind), f.name) {
					want = api.OK
				}
				wantCheck(t, f.name, c, want)
			}
		}
	}
}

// P12.1, Check: lists that are empty are zero, nil or not; Data has at least one byte.
func TestCheckOfEmptyLists(t *testing.T) {
	for kind := range 256 {
		c := api.Chunk{Type: uint8(kind), Blocks: [][2]uint16{}, Dups: []uint32{}, Params: []api.Param{}, Data: []byte{}}
		want := api.OK
		if kind == 0 {
			want = api.ErrArg
		}
		wantCheck(t, "empty lists", c, want)
		wantCheck(t, "nil lists", api.Chunk{Type: uint8(kind)}, want)
	}
	wantCheck(t, "Data without Data", api.Chunk{Type: 0, Flags: 3, TSN: 1, Stream: 2, SSN: 3, PPID: 4}, api.ErrArg)
}

// P12.1, Check: how many Params, Blocks and Dups there may be.
func TestCheckOfLists(t *testing.T) {
	for n, want := range map[int]api.Errno{0: api.OK, 1: api.OK, 15: api.OK, 16: api.OK, 17: api.ErrLimit, 18: api.ErrLimit, 5000: api.ErrLimit} {
		for _, kind := range []uint8{1, 2, 4, 5, 6, 9} {
			wantCheck(t, "Params", api.Chunk{Type: kind, Params: make([]api.Param, n)}, want)
		}
		wantCheck(t, "Blocks", api.Chunk{Type: 3, Blocks: make([][2]uint16, n)}, want)
		wantCheck(t, "Dups", api.Chunk{Type: 3, Dups: make([]uint32, n)}, want)
		wantCheck(t, "both", api.Chunk{Type: 3, Blocks: make([][2]uint16, n), Dups: make([]uint32, n)}, want)
		wantCheck(t, "Blocks, and the most Dups", api.Chunk{Type: 3, Blocks: make([][2]uint16, n), Dups: make([]uint32, 16)}, want)
	}
	wantSize(t, "the greatest Sack", api.Chunk{Type: 3, Blocks: make([][2]uint16, 16), Dups: make([]uint32, 16)}, 144)
	wantSize(t, "the most parameters", api.Chunk{Type: 1, Params: make([]api.Param, 16)}, 84)
}

// params are n parameters, the first ones without Value, the last one with so many bytes.
func params(n, last int) []api.Param {
	l := make([]api.Param, n)
	l[n-1].Value = make([]byte, last)
	return l
}

// P12.1, Check and Size: a chunk has at most MaxSctp - 12 bytes, with padding.
func TestCheckOfSizes(t *testing.T) {
	for _, x := range []struct {
		name string
		most int
		of   func(n int) api.Chunk
	}{
		{"Data", 1452, func(n int) api.Chunk { return api.Chunk{Type: 0, Data: make([]byte, n)} }},
		{"CookieEcho", 1464, func(n int) api.Chunk { return api.Chunk{Type: 10, Data: make([]byte, n)} }},
		{"another", 1464, func(n int) api.Chunk { return api.Chunk{Type: 99, Data: make([]byte, n)} }},
		{"Init", 1444, func(n int) api.Chunk { return api.Chunk{Type: 1, Params: params(1, n)} }},
		{"Heartbeat", 1460, func(n int) api.Chunk { return api.Chunk{Type: 4, Params: params(1, n)} }},
		{"Error", 1400, func(n int) api.Chunk { return api.Chunk{Type: 9, Params: params(16, n)} }},
	} {
		for n := x.most - 5; n <= x.most+5; n++ {
			if n <= x.most {
				wantCheck(t, x.name, x.of(n), api.OK)
				wantSize(t, x.name, x.of(n), 1468-(x.most-n)/4*4)
			} else {
				wantCheck(t, x.name, x.of(n), api.ErrLimit)
			}
		}
		for _, n := range []int{1<<16 - 21, 1<<16 - 8, 1<<16 - 1, 1 << 16, 1<<16 + 8, 1 << 20} {
			wantCheck(t, x.name, x.of(n), api.ErrLimit)
		}
	}
	odd := []api.Param{{Value: make([]byte, 1)}, {Value: make([]byte, 1)}, {Value: make([]byte, 1438)}}
	wantCheck(t, "odd ones", api.Chunk{Type: 4, Params: odd}, api.OK)
	wantSize(t, "odd ones", api.Chunk{Type: 4, Params: odd}, 1464)
	odd[0].Value = make([]byte, 5)
	wantSize(t, "odd ones", api.Chunk{Type: 4, Params: odd}, 1468)
	odd[1].Value = make([]byte, 5)
	wantCheck(t, "odd ones, each of which is padded", api.Chunk{Type: 4, Params: odd}, api.ErrLimit)
}

// P2, Check: a field that is not in the value is told ahead of a limit.
func TestCheckTellsTheFirstError(t *testing.T) {
	wantCheck(t, "Dups and Data", api.Chunk{Type: 3, Dups: make([]uint32, 17), Data: []byte("x")}, api.ErrArg)
	wantCheck(t, "Params of Data", api.Chunk{Type: 0, Data: make([]byte, 2000), Params: make([]api.Param, 17)}, api.ErrArg)
	wantCheck(t, "Data of none", api.Chunk{Type: 11, Data: make([]byte, 2000)}, api.ErrArg)
	wantCheck(t, "Blocks of Data without Data", api.Chunk{Type: 0, Blocks: make([][2]uint16, 99)}, api.ErrArg)
}

// P12.1 and P2, Put: which error is told first.
func TestPutRefuses(t *testing.T) {
	h := api.Head{From: 1}
	good, bad, long := api.Chunk{Type: 11}, api.Chunk{Type: 11, TSN: 1}, api.Chunk{Type: 99, Data: make([]byte, 1465)}
	wantPut(t, "nil", h, nil, nil, api.ErrArg)
	wantPut(t, "none", h, []api.Chunk{}, nil, api.ErrArg)
	many := slices.Repeat([]api.Chunk{good}, 32)
	if b, e := chunk.Put(h, many); e != api.OK || len(b) != 12+32*4 {
		t.Errorf("the most: %d bytes, error %d", len(b), e)
	}
	many = append(many, good)
	wantPut(t, "too many", h, many, nil, api.ErrLimit)
	many[0] = bad
	wantPut(t, "too many, a bad one", h, many, nil, api.ErrLimit)
	wantPut(t, "a bad one", h, many[:32], nil, api.ErrArg)
	wantPut(t, "the last one", h, []api.Chunk{good, good, bad}, nil, api.ErrArg)
	wantPut(t, "a long one first", h, []api.Chunk{good, long, bad}, nil, api.ErrLimit)
	wantPut(t, "a bad one first", h, []api.Chunk{good, bad, long}, nil, api.ErrArg)
	half := api.Chunk{Type: 99, Data: make([]byte, 730)}
	if b, e := chunk.Put(h, []api.Chunk{half, {Type: 99, Data: make([]byte, 728)}}); e != api.OK || len(b) != 1480 {
		t.Errorf("the longest: %d bytes, error %d", len(b), e)
	}
	wantPut(t, "one more", h, []api.Chunk{half, {Type: 99, Data: make([]byte, 729)}}, nil, api.ErrLimit)
	wantPut(t, "too long, a bad one behind", h, []api.Chunk{half, half, half, bad}, nil, api.ErrArg)
	wantPut(t, "an empty one more", h, []api.Chunk{half, {Type: 99, Data: make([]byte, 728)}, good}, nil, api.ErrLimit)
}

// P12.3: two bits of a kind, and its name.
func TestKinds(t *testing.T) {
	names := map[int]string{0: "DATA", 1: "INIT", 2: "INIT ACK", 3: "SACK", 4: "HEARTBEAT", 5: "HEARTBEAT ACK", 6: "ABORT", 7: "SHUTDOWN", 8: "SHUTDOWN ACK", 9: "ERROR", 10: "COOKIE ECHO", 11: "COOKIE ACK", 14: "SHUTDOWN COMPLETE"}
	for kind := range 256 {
		if stops := chunk.Stops(uint8(kind)); stops != (kind < 128) {
			t.Errorf("Stops(%d): %v", kind, stops)
		}
		if tells := chunk.Tells(uint8(kind)); tells != (kind%128 >= 64) {
			t.Errorf("Tells(%d): %v", kind, tells)
		}
		want, ok := names[kind]
		if !ok {
			want = "UNKNOWN"
		}
		if name := chunk.Name(uint8(kind)); name != want {
			t.Errorf("Name(%d): %q; want %q", kind, name, want)
		}
	}
}

// drawParams are parameters of few bytes.
func drawParams(draw func() uint64) []api.Param {
	l := make([]api.Param, draw()%17*(draw()%2))
	for i := range l {
		l[i] = api.Param{Kind: uint16(draw()), Value: drawBytes(draw, int(draw()%12))}
	}
	return l
}

// drawChunk is a chunk that may be.
func drawChunk(draw func() uint64) api.Chunk {
	c := api.Chunk{Type: uint8(draw() % 17), Flags: uint8(draw())}
	if c.Type == 16 {
		c.Type = uint8(draw())
	}
	for _, name := range valued(int(c.Type)) {
		switch name {
		case "TSN":
			c.TSN = uint32(draw())
		case "Stream":
			c.Stream = uint16(draw())
		case "SSN":
			c.SSN = uint16(draw())
		case "PPID":
			c.PPID = uint32(draw())
		case "Tag":
			c.Tag = uint32(draw())
		case "Room":
			c.Room = uint32(draw())
		case "Outs":
			c.Outs = uint16(draw())
		case "Ins":
			c.Ins = uint16(draw())
		case "Params":
			c.Params = drawParams(draw)
		case "Data":
			c.Data = drawBytes(draw, 1+int(draw()%40))
		case "Blocks":
			for range draw() % 17 {
				c.Blocks = append(c.Blocks, [2]uint16{uint16(draw()), uint16(draw())})
			}
		case "Dups":
			for range draw() % 17 {
				c.Dups = append(c.Dups, uint32(draw()))
			}
		}
	}
	return c
}

func drawHead(draw func() uint64) api.Head {
	return api.Head{From: uint16(draw()), To: uint16(draw()), Tag: uint32(draw())}
}

// drawPacket is a head and chunks that may be put.
func drawPacket(draw func() uint64) (api.Head, []api.Chunk) {
	var l []api.Chunk
	for range 1 + draw()%6 {
		l = append(l, drawChunk(draw))
	}
	return drawHead(draw), l
}

// P12.4: Take of Put is the head and the chunks; what is put is as long as its parts.
func TestTakeOfPut(t *testing.T) {
	draw := draws(124)
	for range 4000 {
		h, l := drawPacket(draw)
		size := 12
		for _, c := range l {
			size += chunk.Size(c)
		}
		b, e := chunk.Put(h, l)
		if e != api.OK || len(b)%4 != 0 || len(b) != size {
			t.Fatalf("Put(%s): %d bytes, error %d; want %d bytes", brief(l), len(b), e, size)
		}
		if want := packet(h, l); !bytes.Equal(b, want) {
			t.Fatalf("Put(%s): % x; want % x", brief(l), b, want)
		}
		wantTake(t, "Take of Put", b, h, l, api.OK)
	}
}

// P12.5: one of which up to four bytes behind the twelfth are changed is not taken.
func TestChanged(t *testing.T) {
	draw := draws(125)
	for range 300 {
		b, e := chunk.Put(drawPacket(draw))
		if e != api.OK {
			t.Fatalf("error %d", e)
		}
		for at := 12; at < len(b); at++ {
			turned := bytes.Clone(b)
			for i := range 1 + int(draw()%4) {
				if at+i < len(b) {
					turned[at+i] ^= byte(draw())
				}
			}
			if turned[at] == b[at] {
				turned[at] ^= 1 << (draw() % 8)
			}
			wantTakeErr(t, "changed", turned, api.ErrSum)
		}
	}
}

// scribble writes over a list and the spare room behind it.
func scribble[T any](l []T, x T) {
	l = l[:cap(l)]
	for i := range l {
		l[i] = x
	}
}

// scribbleAll writes over all lists of chunks.
func scribbleAll(l []api.Chunk) {
	for _, c := range l {
		scribble(c.Data, 0x5a)
		scribble(c.Dups, 0x5a5a5a5a)
		scribble(c.Blocks, [2]uint16{0x5a5a, 0x5a5a})
		for _, p := range c.Params {
			scribble(p.Value, 0x5a)
		}
		scribble(c.Params, api.Param{})
	}
	scribble(l, api.Chunk{})
}

// clone is chunks that lie elsewhere.
func clone(l []api.Chunk) []api.Chunk {
	l = slices.Clone(l)
	for i, c := range l {
		l[i].Data, l[i].Dups, l[i].Blocks, l[i].Params = bytes.Clone(c.Data), slices.Clone(c.Dups), slices.Clone(c.Blocks), slices.Clone(c.Params)
		for j, p := range l[i].Params {
			l[i].Params[j].Value = bytes.Clone(p.Value)
		}
	}
	return l
}

// P3: what is handed in stays as it is, spare room too, and what is answered is new memory.
func TestNewMemory(t *testing.T) {
	draw := draws(3)
	for range 500 {
		h, l := drawPacket(draw)
		keep := clone(l)
		b, _ := chunk.Put(h, l)
		bytesKeep := append(bytes.Clone(b), "spare room"...)
		b = append(b, "spare room"...)
		size := len(b) - len("spare room")
		_, one, _ := chunk.Take(b[:size])
		_, two, _ := chunk.Take(b[:size])
		scribbleAll(one)
		if !bytes.Equal(b, bytesKeep) || !slices.EqualFunc(two, keep, same) {
			t.Fatal("what is taken lies in what was handed in, or answered")
		}
		scribble(b, 0x5a)
		if !slices.EqualFunc(l, keep, same) || !slices.EqualFunc(two, keep, same) {
			t.Fatal("what is put lies in what was handed in, or is kept")
		}
	}
}

// P3: no two lists of one answer share memory, whatever is laid behind them.
func TestListsShareNothing(t *testing.T) {
	draw := draws(33)
	for range 200 {
		h, l := drawPacket(draw)
		b, _ := chunk.Put(h, l)
		_, m, _ := chunk.Take(b)
		for i := range m {
			want := clone(m)
			m[i].Data = append(m[i].Data, 0x5a)
			scribble(m[i].Data, 0x5a)
			for j := range m[i].Params {
				scribble(append(m[i].Params[j].Value, 0x5a), 0x5a)
				for k := range m[i].Params {
					if k > j && !sameParam(m[i].Params[k], want[i].Params[k]) {
						t.Fatal("a parameter lies in another one's room")
					}
				}
			}
			for j := range m {
				if j != i && !same(m[j], want[j]) {
					t.Fatal("a chunk lies in another one's room")
				}
			}
		}
	}
}

// P3: spare room behind lists that are handed in stays as it is.
func TestSpareRoom(t *testing.T) {
	data := []byte("data and spare room")
	value := []byte("value and spare room")
	params := []api.Param{{Kind: 1, Value: value[:5]}, {Kind: 2, Value: data[5:8]}}
	l := []api.Chunk{{Type: 10, Data: data[:4]}, {Type: 4, Params: params[:1]}, {Type: 11}}
	b, e := chunk.Put(api.Head{}, l[:2])
	if e != api.OK || string(data) != "data and spare room" || string(value) != "value and spare room" || params[1].Kind != 2 || l[2].Type != 11 {
		t.Fatalf("% x, error %d: what was handed in was changed", b, e)
	}
}
