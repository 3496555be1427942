package cookie_test

import (
	"bytes"
	"crypto/hmac"
	"crypto/sha256"
	"encoding/binary"
	"math"
	"testing"

	"trunkline/api"
	"trunkline/cookie"
)

const bodyLen = 52

// draws is a row of numbers that look like chance and are the same each time.
func draws(seed uint64) func() uint64 {
	return func() uint64 {
		seed += 0x9e3779b97f4a7c15
		z := (seed ^ seed>>30) * 0xbf58476d1ce4e5b9
		z = (z ^ z>>27) * 0x94d049bb133111eb
		return z ^ z>>31
	}
}

// some is a cookie that looks like chance.
func some(next func() uint64) api.Cookie {
	return api.Cookie{
		Made: int(next() % (api.MaxTick + 1)), Life: int(next() % (api.MaxLife + 1)),
		Port: uint16(next()), PeerPort: uint16(next()),
		Tag: uint32(next()), PeerTag: uint32(next()), TSN: uint32(next()), PeerTSN: uint32(next()), Room: uint32(next()),
		Outs: uint16(next()), Ins: uint16(next()), Addr: uint32(next()), Other: uint32(next()),
	}
}

// body is the 52 bytes that a cookie is to be.
func body(c api.Cookie) []byte {
	to := binary.BigEndian
	b := to.AppendUint64(nil, uint64(c.Made))
	b = to.AppendUint32(b, uint32(c.Life))
	b = to.AppendUint16(b, c.Port)
	b = to.AppendUint16(b, c.PeerPort)
	for _, v := range []uint32{c.Tag, c.PeerTag, c.TSN, c.PeerTSN, c.Room} {
		b = to.AppendUint32(b, v)
	}
	b = to.AppendUint16(b, c.Outs)
	b = to.AppendUint16(b, c.Ins)
	b = to.AppendUint32(b, c.Addr)
	b = to.AppendUint32(b, c.Other)
	return append(b, 0, 0, 0, 0)
}

// under is bytes and their Mac, made without the packages that are tested.
func under(secret string, b []byte) []byte {
	m := hmac.New(sha256.New, []byte(secret))
	m.Write(b)
	return m.Sum(bytes.Clone(b))
}

// seal seals a cookie, which must go well.
func seal(t *testing.T, k *cookie.Keys, c api.Cookie) []byte {
	t.Helper()
	b, e := k.Seal(c)
	if e != api.OK {
		t.Fatalf("Seal(%v): error %d", c, e)
	}
	return b
}

// turn turns keys, which must go well.
func turn(t *testing.T, k *cookie.Keys, secret string) {
	t.Helper()
	if e := k.Turn([]byte(secret)); e != api.OK {
		t.Fatalf("Turn: error %d", e)
	}
}

// wantOpen holds what Open answers against a cookie and an error.
func wantOpen(t *testing.T, name string, k *cookie.Keys, b []byte, now int, c api.Cookie, e api.Errno) {
	t.Helper()
	if got, err := k.Open(b, now); got != c || err != e {
		t.Errorf("%s: Open at %d: %v, error %d; want %v, error %d", name, now, got, err, c, e)
	}
}

// refused is wantOpen of an error.
func refused(t *testing.T, name string, k *cookie.Keys, b []byte, now int, e api.Errno) {
	t.Helper()
	wantOpen(t, name, k, b, now, api.Cookie{}, e)
}

// P6.2: the chapter's example: zeros, and Mac of them.
func TestExample(t *testing.T) {
	b := seal(t, cookie.New([]byte("s")), api.Cookie{})
	if !bytes.Equal(b, under("s", make([]byte, bodyLen))) {
		t.Errorf("sealed: %x", b)
	}
}

// P6.2: each number stands where it is to stand.
func TestPlaces(t *testing.T) {
	k := cookie.New([]byte("s"))
	for _, c := range []struct {
		name   string
		cookie api.Cookie
		at     int
		want   []byte
	}{
		{"Made", api.Cookie{Made: 0x102030405}, 0, []byte{0, 0, 0, 1, 2, 3, 4, 5}},
		{"Made", api.Cookie{Made: api.MaxTick}, 0, []byte{0, 0, 1, 0, 0, 0, 0, 0}},
		{"Life", api.Cookie{Life: 258}, 8, []byte{0, 0, 1, 2}},
		{"Life", api.Cookie{Life: api.MaxLife}, 8, []byte{0, 0, 2, 88}},
		{"Port", api.Cookie{Port: 0x102}, 12, []byte{1, 2}},
		{"PeerPort", api.Cookie{PeerPort: 0x102}, 14, []byte{1, 2}},
		{"Tag", api.Cookie{Tag: 0x1020304}, 16, []byte{1, 2, 3, 4}},
		{"PeerTag", api.Cookie{PeerTag: 0x1020304}, 20, []byte{1, 2, 3, 4}},
		{"TSN", api.Cookie{TSN: 0x1020304}, 24, []byte{1, 2, 3, 4}},
		{"PeerTSN", api.Cookie{PeerTSN: 0x1020304}, 28, []byte{1, 2, 3, 4}},
		{"Room", api.Cookie{Room: 0x1020304}, 32, []byte{1, 2, 3, 4}},
		{"Outs", api.Cookie{Outs: 0x102}, 36, []byte{1, 2}},
		{"Ins", api.Cookie{Ins: 0x102}, 38, []byte{1, 2}},
		{"Addr", api.Cookie{Addr: 0x1020304}, 40, []byte{1, 2, 3, 4}},
		{"Other", api.Cookie{Other: 0xfffffffe}, 44, []byte{255, 255, 255, 254}},
	} {
		want := make([]byte, bodyLen)
		copy(want[c.at:], c.want)
		b := seal(t, k, c.cookie)
		if !bytes.Equal(b, under("s", want)) {
			t.Errorf("%s: %x", c.name, b)
		}
		wantOpen(t, c.name, k, b, c.cookie.Made, c.cookie, api.OK)
	}
}

// P6.2, P6.4: cookies of all kinds are laid as they are to be, under secrets of all lengths, and opened as they were.
func TestSealAndOpen(t *testing.T) {
	next := draws(61)
	for n := range 200 {
		secret := make([]byte, n)
		for i := range secret {
			secret[i] = byte(next())
		}
		k := cookie.New(secret)
		c := some(next)
		b := seal(t, k, c)
		if len(b) != api.CookieLen || !bytes.Equal(b, under(string(secret), body(c))) {
			t.Fatalf("%v: %x", c, b)
		}
		now := min(c.Made+int(next()%uint64(c.Life+1)), api.MaxTick)
		wantOpen(t, "sealed", k, b, now, c, api.OK)
	}
}

// P6.2: Made and Life have limits, and beyond them nothing is sealed.
func TestSealLimits(t *testing.T) {
	k := cookie.New([]byte("s"))
	for _, c := range []api.Cookie{{}, {Made: api.MaxTick}, {Life: api.MaxLife}, {Made: api.MaxTick, Life: api.MaxLife}} {
		seal(t, k, c)
	}
	for _, c := range []api.Cookie{
		{Made: -1}, {Made: api.MaxTick + 1}, {Made: math.MinInt}, {Made: math.MaxInt},
		{Life: -1}, {Life: api.MaxLife + 1}, {Life: math.MinInt}, {Life: math.MaxInt}, {Life: 1 << 32}, {Life: 1<<32 + 5},
		{Made: -1, Life: 5}, {Made: math.MaxInt, Life: math.MaxInt},
	} {
		if b, e := k.Seal(c); b != nil || e != api.ErrLimit {
			t.Errorf("Seal(%v): %x, error %d", c, b, e)
		}
	}
}

// P6.4: a cookie is opened from Made to Made + Life; ahead of it and behind it it is stale.
func TestStale(t *testing.T) {
	k := cookie.New([]byte("s"))
	for _, c := range []api.Cookie{
		{Made: 100, Life: 60}, {Made: 0, Life: 0}, {Made: 0, Life: 1}, {Made: 7, Life: 0}, {Made: 1, Life: api.MaxLife},
		{Made: api.MaxTick - 700, Life: api.MaxLife}, {Made: api.MaxTick, Life: 0}, {Made: api.MaxTick, Life: api.MaxLife},
		{Made: api.MaxTick - 5, Life: 10},
	} {
		c.Tag = 9
		b := seal(t, k, c)
		for _, now := range []int{c.Made, c.Made + c.Life/2, c.Made + c.Life} {
			if now <= api.MaxTick {
				wantOpen(t, "within", k, b, now, c, api.OK)
			}
		}
		for _, now := range []int{0, c.Made - 2, c.Made - 1, c.Made + c.Life + 1, c.Made + c.Life + 2, c.Made + 36000, api.MaxTick} {
			if now >= 0 && now <= api.MaxTick && (now < c.Made || now > c.Made+c.Life) {
				refused(t, "outside", k, b, now, api.ErrStale)
			}
		}
	}
}

// P6.3: now has limits.
func TestNow(t *testing.T) {
	k := cookie.New([]byte("s"))
	b := seal(t, k, api.Cookie{Made: api.MaxTick, Life: 5})
	for _, now := range []int{-1, api.MaxTick + 1, api.MaxTick + 5, math.MinInt, math.MaxInt} {
		refused(t, "now", k, b, now, api.ErrArg)
	}
}

// P6.3: a cookie has CookieLen bytes, no fewer and no more.
func TestLength(t *testing.T) {
	k := cookie.New([]byte("s"))
	b := seal(t, k, api.Cookie{Tag: 5})
	for n := range api.CookieLen {
		refused(t, "short", k, b[:n], 0, api.ErrForm)
	}
	refused(t, "nil", k, nil, 0, api.ErrForm)
	for n := 1; n < 90; n++ {
		refused(t, "long", k, append(bytes.Clone(b), make([]byte, n)...), 0, api.ErrForm)
	}
	for n := range 120 {
		if n != bodyLen { // so long that its Mac would make it a cookie's length
			refused(t, "another length with its Mac", k, under("s", make([]byte, n)), 0, api.ErrForm)
		}
	}
}

// P6.1, P6.4: behind one Turn what was sealed is opened yet, behind two it is not.
func TestTurn(t *testing.T) {
	next := draws(62)
	k := cookie.New([]byte("first"))
	secrets := []string{"first", "second", "", "third", "third", "fourth", "first"}
	var sealed [][]byte
	var cookies []api.Cookie
	for i, secret := range secrets {
		if i > 0 {
			turn(t, k, secret)
		}
		c := some(next)
		cookies = append(cookies, c)
		sealed = append(sealed, seal(t, k, c))
		if !bytes.Equal(sealed[i], under(secret, body(c))) {
			t.Fatalf("secret %d: sealed under another one", i)
		}
		for j, b := range sealed {
			if secrets[j] == secret || i > 0 && secrets[j] == secrets[i-1] {
				wantOpen(t, "behind a turn", k, b, cookies[j].Made, cookies[j], api.OK)
			} else {
				refused(t, "behind two", k, b, cookies[j].Made, api.ErrSum)
			}
		}
	}
}

// P6.1, P6.3: ahead of the first Turn there is no former secret, not even an empty one; behind it an empty one is one.
func TestEmptySecret(t *testing.T) {
	b := under("", body(api.Cookie{Tag: 3}))
	for _, none := range [][]byte{nil, {}} {
		k := cookie.New(none)
		wantOpen(t, "current", k, b, 0, api.Cookie{Tag: 3}, api.OK)
		turn(t, k, "x")
		wantOpen(t, "former", k, b, 0, api.Cookie{Tag: 3}, api.OK)
		turn(t, k, "y")
		refused(t, "neither", k, b, 0, api.ErrSum)
		turn(t, k, "")
		wantOpen(t, "current again", k, b, 0, api.Cookie{Tag: 3}, api.OK)
	}
	refused(t, "no former one", cookie.New([]byte("x")), b, 0, api.ErrSum)
}

// P6.5: a cookie of which one bit is another one is refused.
func TestBits(t *testing.T) {
	k := cookie.New([]byte("s"))
	turn(t, k, "t")
	for _, secret := range []string{"s", "t"} {
		b := under(secret, body(api.Cookie{Made: 5, Life: 600, Tag: 7}))
		wantOpen(t, "as it was", k, b, 10, api.Cookie{Made: 5, Life: 600, Tag: 7}, api.OK)
		for i := range b {
			for bit := range 8 {
				turned := bytes.Clone(b)
				turned[i] ^= 1 << bit
				refused(t, "a bit", k, turned, 10, api.ErrSum)
			}
		}
	}
}

// P6.5: what no secret of the two sealed is refused: bytes of chance, cookies under other secrets, parts of two.
func TestStrangers(t *testing.T) {
	next := draws(63)
	k := cookie.New([]byte("s"))
	turn(t, k, "t")
	refused(t, "zeros", k, make([]byte, api.CookieLen), 0, api.ErrSum)
	for range 500 {
		b := make([]byte, api.CookieLen)
		for i := range b {
			b[i] = byte(next())
		}
		refused(t, "chance", k, b, int(next()%api.MaxTick), api.ErrSum)
	}
	c := some(next)
	for _, secret := range []string{"", "u", "S", "st", "s ", "\x00s"} {
		refused(t, "another secret", k, under(secret, body(c)), c.Made, api.ErrSum)
	}
	one, two := under("s", body(c)), under("t", body(c))
	refused(t, "parts of two", k, append(bytes.Clone(one[:60]), two[60:]...), c.Made, api.ErrSum)
}

// P6.3: what was sealed under the secret by other means is held against the form, then against the limits.
func TestSealedWrong(t *testing.T) {
	k := cookie.New([]byte("s"))
	turn(t, k, "t")
	for _, secret := range []string{"s", "t"} {
		for at := 48; at < bodyLen; at++ {
			b := body(api.Cookie{Tag: 1})
			b[at] = 1
			refused(t, "the last four", k, under(secret, b), 0, api.ErrForm)
		}
		for _, c := range []api.Cookie{{Made: api.MaxTick + 1}, {Made: -1}, {Made: math.MinInt}, {Made: math.MaxInt}, {Life: api.MaxLife + 1}, {Life: -1}, {Life: 1 << 31}} {
			refused(t, "a limit", k, under(secret, body(c)), 0, api.ErrLimit)
		}
		wantOpen(t, "the last of the limits", k, under(secret, body(api.Cookie{Made: api.MaxTick, Life: api.MaxLife})), api.MaxTick, api.Cookie{Made: api.MaxTick, Life: api.MaxLife}, api.OK)
	}
}

// P2, P6.3: where several errors apply, it is the one that is named first.
func TestOrderOfErrors(t *testing.T) {
	k := cookie.New([]byte("s"))
	stale := under("s", body(api.Cookie{Made: 50}))
	limit := under("s", body(api.Cookie{Made: 50, Life: 601}))
	spare := body(api.Cookie{Made: 50, Life: 601})
	spare[51] = 1
	form := under("s", spare)
	sum := bytes.Clone(form)
	sum[83] ^= 1
	refused(t, "stale", k, stale, 1, api.ErrStale)
	refused(t, "limit, stale", k, limit, 1, api.ErrLimit)
	refused(t, "form, limit, stale", k, form, 1, api.ErrForm)
	refused(t, "sum, form, limit, stale", k, sum, 1, api.ErrSum)
	refused(t, "length, sum", k, sum[:83], 1, api.ErrForm)
	refused(t, "now, length", k, sum[:83], -1, api.ErrArg)
	refused(t, "now, sum", k, sum, -1, api.ErrArg)
	refused(t, "now, stale", k, stale, api.MaxTick+1, api.ErrArg)
	refused(t, "nil, now, length", nil, nil, -1, api.ErrNil)
}

// P1: nil keys answer ErrNil, and nil.
func TestNil(t *testing.T) {
	var k *cookie.Keys
	if e := k.Turn([]byte("s")); e != api.ErrNil {
		t.Errorf("Turn: error %d", e)
	}
	if b, e := k.Seal(api.Cookie{Made: -1}); b != nil || e != api.ErrNil {
		t.Errorf("Seal: %x, error %d", b, e)
	}
	refused(t, "nil", k, under("", body(api.Cookie{})), 0, api.ErrNil)
	if k.Fork() != nil {
		t.Error("Fork: not nil")
	}
}

// P6.5: opening changes nothing, and neither does a Seal that is refused.
func TestOpenChangesNothing(t *testing.T) {
	next := draws(64)
	k := cookie.New([]byte("s"))
	turn(t, k, "t")
	c := some(next)
	old, new := under("s", body(c)), under("t", body(c))
	for _, b := range [][]byte{old, new, nil, make([]byte, api.CookieLen), under("u", body(c)), old, new} {
		for _, now := range []int{-1, 0, c.Made, api.MaxTick} {
			k.Open(b, now)
		}
		k.Seal(api.Cookie{Made: -1})
		wantOpen(t, "old", k, old, c.Made, c, api.OK)
		wantOpen(t, "new", k, new, c.Made, c, api.OK)
		refused(t, "another secret", k, under("u", body(c)), c.Made, api.ErrSum)
		if got := seal(t, k, c); !bytes.Equal(got, new) {
			t.Fatalf("sealed: %x", got)
		}
	}
}

// P3: secrets and sealed bytes stay as they are, spare room too, and a secret is not kept as the caller's list.
func TestArgumentsStay(t *testing.T) {
	for _, n := range []int{0, 1, 5, 64, 70} {
		whole := bytes.Repeat([]byte{7}, n+100)
		secret := whole[:n]
		k := cookie.New(secret)
		if e := k.Turn(secret); e != api.OK {
			t.Fatalf("Turn: error %d", e)
		}
		b := seal(t, k, api.Cookie{Tag: 1})
		roomy := append(make([]byte, 0, 300), b...)
		k.Open(roomy, 0)
		if !bytes.Equal(whole, bytes.Repeat([]byte{7}, n+100)) || !bytes.Equal(roomy, b) || !bytes.Equal(roomy[84:300], make([]byte, 216)) {
			t.Errorf("a secret of %d bytes: changed", n)
		}
	}
}

// P3: keys go on with the secrets as they were, whatever becomes of the lists.
func TestSecretsNotKept(t *testing.T) {
	first, second := []byte("first"), []byte("second")
	k := cookie.New(first)
	clear(first)
	wantOpen(t, "first", k, under("first", body(api.Cookie{})), 0, api.Cookie{}, api.OK)
	if e := k.Turn(second); e != api.OK {
		t.Fatalf("Turn: error %d", e)
	}
	clear(second)
	wantOpen(t, "former", k, under("first", body(api.Cookie{})), 0, api.Cookie{}, api.OK)
	wantOpen(t, "current", k, under("second", body(api.Cookie{})), 0, api.Cookie{}, api.OK)
}

// P3: what is sealed is new memory each time, spare room too.
func TestSealedIsNew(t *testing.T) {
	k := cookie.New([]byte("s"))
	one := seal(t, k, api.Cookie{Tag: 1})
	want := bytes.Clone(one)
	two := seal(t, k, api.Cookie{Tag: 1})
	clear(two[:cap(two)])
	if !bytes.Equal(one, want) || !bytes.Equal(seal(t, k, api.Cookie{Tag: 1}), want) {
		t.Error("two answers lie in one list")
	}
}

// P4, P6.3: a Fork is alike, with a former secret and without, and each goes on alone.
func TestFork(t *testing.T) {
	c := api.Cookie{Made: 3, Life: 4, Other: 5}
	in := func(secret string) []byte { return under(secret, body(c)) }
	k := cookie.New([]byte("s"))
	f := k.Fork()
	wantOpen(t, "alike", f, in("s"), 5, c, api.OK)
	refused(t, "no former one", f, in(""), 5, api.ErrSum)
	turn(t, f, "f")
	refused(t, "the first one", k, in("f"), 5, api.ErrSum)
	if !bytes.Equal(seal(t, k, c), in("s")) || !bytes.Equal(seal(t, f, c), in("f")) {
		t.Error("sealed under the other one's secret")
	}
	turn(t, k, "k")
	refused(t, "the Fork", f, in("k"), 5, api.ErrSum)
	g := f.Fork()
	turn(t, f, "ff")
	wantOpen(t, "the Fork's Fork, current", g, in("f"), 5, c, api.OK)
	wantOpen(t, "the Fork's Fork, former", g, in("s"), 5, c, api.OK)
	refused(t, "the Fork's Fork", g, in("ff"), 5, api.ErrSum)
	refused(t, "the Fork has turned twice", f, in("s"), 5, api.ErrSum)
	wantOpen(t, "the first one, former", k, in("s"), 5, c, api.OK)
}

// P6: keys stand alone: what is done with some changes nothing of others.
func TestKeysStandAlone(t *testing.T) {
	one, two := cookie.New([]byte("one")), cookie.New([]byte("two"))
	turn(t, two, "three")
	wantOpen(t, "one", one, under("one", body(api.Cookie{})), 0, api.Cookie{}, api.OK)
	refused(t, "one", one, under("two", body(api.Cookie{})), 0, api.ErrSum)
	refused(t, "one", one, under("three", body(api.Cookie{})), 0, api.ErrSum)
	refused(t, "two", two, under("one", body(api.Cookie{})), 0, api.ErrSum)
}
