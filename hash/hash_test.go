package hash_test

import (
	"bytes"
	"crypto/hmac"
	"crypto/sha256"
	"encoding/hex"
	"strings"
	"testing"

	"trunkline/api"
	"trunkline/hash"
)

// draws is a row of numbers that look like chance and are the same each time.
func draws(seed uint64) func() uint64 {
	return func() uint64 {
		seed += 0x9e3779b97f4a7c15
		z := (seed ^ seed>>30) * 0xbf58476d1ce4e5b9
		z = (z ^ z>>27) * 0x94d049bb133111eb
		return z ^ z>>31
	}
}

// some is n bytes that look like chance.
func some(next func() uint64, n int) []byte {
	b := make([]byte, n)
	for i := range b {
		b[i] = byte(next())
	}
	return b
}

// mac is what Mac is to tell.
func mac(key, b []byte) [32]byte {
	m := hmac.New(sha256.New, key)
	m.Write(b)
	return [32]byte(m.Sum(nil))
}

// wantHex holds a sum against its text.
func wantHex(t *testing.T, name string, got [32]byte, want string) {
	t.Helper()
	if s := hex.EncodeToString(got[:]); s != want {
		t.Errorf("%s: %s; want %s", name, s, want)
	}
}

// P5.1: the chapter's examples, and others that are known.
func TestSumExamples(t *testing.T) {
	wantHex(t, "none", hash.Sum(nil), "e3b0c44298fc1c149afbf4c8996fb92427ae41e4649b934ca495991b7852b855")
	wantHex(t, "empty", hash.Sum([]byte{}), "e3b0c44298fc1c149afbf4c8996fb92427ae41e4649b934ca495991b7852b855")
	wantHex(t, "abc", hash.Sum([]byte("abc")), "ba7816bf8f01cfea414140de5dae2223b00361a396177a9cb410ff61f20015ad")
	wantHex(t, "two blocks", hash.Sum([]byte("abcdbcdecdefdefgefghfghighijhijkijkljklmklmnlmnomnopnopq")), "248d6a61d20638b8e5c026930c3e6039a33ce45964ff2167f6ecedd419db06c1")
	wantHex(t, "a million", hash.Sum([]byte(strings.Repeat("a", 1000000))), "cdc76e5c9914fb9281a1c7e284d73e67f1809a48a497200e046d39ccc7112cd0")
}

// P5.1: each length around the blocks' edges, where the ending needs a block of its own or not.
func TestSumLengths(t *testing.T) {
	next := draws(51)
	for n := range 300 {
		for _, b := range [][]byte{make([]byte, n), bytes.Repeat([]byte{0xff}, n), some(next, n)} {
			if got, want := hash.Sum(b), sha256.Sum256(b); got != want {
				t.Errorf("%d bytes: %x; want %x", n, got, want)
			}
		}
	}
}

// P5.1: how many bits there are is more than two bytes hold, and more than three.
func TestSumLong(t *testing.T) {
	next := draws(52)
	for _, n := range []int{1<<13 - 1, 1 << 13, 1<<13 + 1, 1 << 16, 1<<21 - 1, 1 << 21, 1<<21 + 63} {
		b := some(next, n)
		if got, want := hash.Sum(b), sha256.Sum256(b); got != want {
			t.Errorf("%d bytes: %x; want %x", n, got, want)
		}
	}
}

// P5.2: the chapter's example, and those of RFC 4231 with a short key, a long one, and long bytes.
func TestMacExamples(t *testing.T) {
	wantHex(t, "Jefe", hash.Mac([]byte("Jefe"), []byte("what do ya want for nothing?")), "5bdcc146bf60754e6a042426089575c75a003f089d2739839dec58b964ec3843")
	wantHex(t, "20 bytes", hash.Mac(bytes.Repeat([]byte{0x0b}, 20), []byte("Hi There")), "b0344c61d8db38535ca8afceaf0bf12b881dc200c9833da726e9376c2e32cff7")
	wantHex(t, "131 bytes", hash.Mac(bytes.Repeat([]byte{0xaa}, 131), []byte("Test Using Larger Than Block-Size Key - Hash Key First")), "60e431591ee0b67f0d8a26aacbf5b77f8e0bc6213728c5140546040f0ee37f54")
	wantHex(t, "none of both", hash.Mac(nil, nil), "b613679a0814d9ec772f95d778c35fc5ff1697c493715653c6c712144292c5ad")
}

// P5.2: keys and bytes of all lengths around a block's.
func TestMacLengths(t *testing.T) {
	next := draws(53)
	for n := range 140 {
		for _, m := range []int{0, 1, 31, 32, 55, 56, 63, 64, 65, 200} {
			key, b := some(next, n), some(next, m)
			if got, want := hash.Mac(key, b), mac(key, b); got != want {
				t.Errorf("a key of %d bytes, %d bytes: %x; want %x", n, m, got, want)
			}
		}
	}
}

// P5.2, Same: both must have the same length and the same bytes.
func TestSame(t *testing.T) {
	long := some(draws(54), 100)
	for _, c := range []struct {
		name string
		a, b []byte
		want bool
	}{
		{"nils", nil, nil, true},
		{"nil and empty", nil, []byte{}, true},
		{"nil and one", nil, []byte{0}, false},
		{"one and empty", []byte{0}, []byte{}, false},
		{"alike", []byte("ab"), []byte("ab"), true},
		{"the last one", []byte("ab"), []byte("ac"), false},
		{"the first one", []byte("ab"), []byte("bb"), false},
		{"turned round", []byte("ab"), []byte("ba"), false},
		{"the first of it", []byte("ab"), []byte("abc"), false},
		{"more of it", []byte("abc"), []byte("ab"), false},
		{"a zero more", []byte{1}, []byte{1, 0}, false},
		{"long", long, bytes.Clone(long), true},
	} {
		if got := hash.Same(c.a, c.b); got != c.want {
			t.Errorf("%s: %t", c.name, got)
		}
	}
}

// P5.2, Same: one bit is enough, and two that differ do not cancel out.
func TestSameBits(t *testing.T) {
	a := some(draws(55), 40)
	for i := range a {
		for bit := range 8 {
			b := bytes.Clone(a)
			b[i] ^= 1 << bit
			if hash.Same(a, b) {
				t.Errorf("byte %d, bit %d: the same", i, bit)
			}
			b[(i+1)%len(b)] ^= 1 << bit
			if hash.Same(a, b) {
				t.Errorf("bytes %d and the next one, bit %d: the same", i, bit)
			}
		}
	}
}

// write writes bytes, which must go well.
func write(t *testing.T, h *hash.Hash, b []byte) {
	t.Helper()
	if e := h.Write(b); e != api.OK {
		t.Fatalf("Write: error %d", e)
	}
}

// P5.3: a new hash has no bytes; what is written stands behind it.
func TestHash(t *testing.T) {
	h := hash.New()
	if h.Sum() != hash.Sum(nil) {
		t.Error("a new one is not that of no bytes")
	}
	write(t, h, nil)
	write(t, h, []byte{})
	if h.Sum() != hash.Sum(nil) {
		t.Error("none written is not that of no bytes")
	}
	write(t, h, []byte("a"))
	write(t, h, []byte("bc"))
	if h.Sum() != sha256.Sum256([]byte("abc")) {
		t.Error("a, bc is not abc")
	}
	if hash.New().Sum() != hash.Sum(nil) {
		t.Error("a second new one has bytes")
	}
}

// P5.3, Sum: it goes on as if it had not been asked, at each length.
func TestSumGoesOn(t *testing.T) {
	b := some(draws(56), 200)
	h := hash.New()
	for i := range b {
		write(t, h, b[i:i+1])
		want := sha256.Sum256(b[:i+1])
		if h.Sum() != want || h.Sum() != want {
			t.Fatalf("%d bytes, one by one: another sum", i+1)
		}
	}
}

// P5.4: in which pieces bytes are written plays no part.
func TestPieces(t *testing.T) {
	next := draws(57)
	for range 400 {
		b := some(next, int(next()%400))
		h := hash.New()
		var cuts []int
		for at := 0; at < len(b); {
			n := min(int(next()%150), len(b)-at)
			write(t, h, b[at:at+n])
			at += n
			cuts = append(cuts, at)
		}
		if h.Sum() != sha256.Sum256(b) {
			t.Fatalf("%d bytes, cut at %d: another sum", len(b), cuts)
		}
	}
}

// P5.4: two pieces, cut at each place over the blocks' edges.
func TestTwoPieces(t *testing.T) {
	b := some(draws(58), 150)
	want := sha256.Sum256(b)
	for at := range len(b) + 1 {
		h := hash.New()
		write(t, h, b[:at])
		write(t, h, b[at:])
		if h.Sum() != want {
			t.Errorf("cut at %d: another sum", at)
		}
	}
}

// P5.5: zeros behind a key, up to 64, and the sum of a longer one are the same key; zeros beyond 64 are another one.
func TestSameKeys(t *testing.T) {
	next := draws(59)
	b := some(next, 77)
	for n := range 65 {
		key := some(next, n)
		for zeros := 0; n+zeros <= 64; zeros++ {
			if hash.Mac(append(bytes.Clone(key), make([]byte, zeros)...), b) != hash.Mac(key, b) {
				t.Errorf("a key of %d bytes and %d zeros: another one", n, zeros)
			}
		}
		if hash.Mac(append(bytes.Clone(key), make([]byte, 65-n)...), b) == hash.Mac(key, b) {
			t.Errorf("a key of %d bytes and zeros up to 65: the same", n)
		}
	}
	for n := 60; n < 140; n++ {
		key := some(next, n)
		short := hash.Sum(key)
		if (hash.Mac(short[:], b) == hash.Mac(key, b)) != (n > 64) {
			t.Errorf("a key of %d bytes and its sum", n)
		}
	}
}

// P1: a nil hash answers ErrNil, zeros, nil.
func TestNil(t *testing.T) {
	var h *hash.Hash
	for _, b := range [][]byte{nil, {}, {1, 2}, make([]byte, 100)} {
		if e := h.Write(b); e != api.ErrNil {
			t.Errorf("Write: error %d", e)
		}
	}
	if h.Sum() != [32]byte{} {
		t.Error("Sum: not zeros")
	}
	if h.Fork() != nil {
		t.Error("Fork: not nil")
	}
}

// P3: what is handed in stays as it is, spare room too.
func TestArgumentsStay(t *testing.T) {
	next := draws(60)
	for _, n := range []int{0, 1, 55, 56, 63, 64, 65, 128, 130} {
		whole := some(next, 2*n+300)
		b, key := whole[:n], whole[n+100:2*n+100]
		was := bytes.Clone(whole)
		h := hash.New()
		write(t, h, b)
		h.Sum()
		hash.Sum(b)
		hash.Mac(key, b)
		hash.Mac(b, key)
		hash.Same(b, key)
		if !bytes.Equal(whole, was) {
			t.Errorf("%d bytes: changed", n)
		}
	}
}

// P3: what was written is not kept as the caller's list.
func TestNothingKept(t *testing.T) {
	for _, n := range []int{1, 63, 64, 65, 127, 128, 129} {
		b := some(draws(61), n)
		want := sha256.Sum256(b)
		h := hash.New()
		write(t, h, b)
		clear(b)
		if h.Sum() != want {
			t.Errorf("%d bytes: the sum hangs on the list", n)
		}
	}
}

// P4, P5.3: a Fork is alike, and what becomes of the one changes nothing of the other one, nor of one forked from it.
func TestFork(t *testing.T) {
	next := draws(62)
	for _, n := range []int{0, 1, 10, 55, 63, 64, 65, 100, 128, 200} {
		b, left, right := some(next, n), some(next, 90), some(next, 90)
		h := hash.New()
		write(t, h, b)
		f := h.Fork()
		if f.Sum() != sha256.Sum256(b) {
			t.Fatalf("%d bytes: a Fork is not alike", n)
		}
		for i := range 90 {
			write(t, h, left[i:i+1])
			write(t, f, right[i:i+1])
			sums := [2][32]byte{h.Sum(), f.Sum()}
			want := [2][32]byte{
				sha256.Sum256(append(bytes.Clone(b), left[:i+1]...)),
				sha256.Sum256(append(bytes.Clone(b), right[:i+1]...)),
			}
			if sums != want {
				t.Fatalf("%d bytes, %d more: one changed the other one", n, i+1)
			}
		}
	}
}

// P6: the calls keep nothing: the same is answered each time, whatever was asked between.
func TestAlikeEachTime(t *testing.T) {
	a, b := some(draws(63), 70), some(draws(64), 80)
	sum, under := hash.Sum(a), hash.Mac(a, b)
	hash.Sum(b)
	hash.Mac(b, a)
	write(t, hash.New(), b)
	if hash.Sum(a) != sum || hash.Mac(a, b) != under {
		t.Error("another answer the second time")
	}
}
