package digest_test

import (
	"bytes"
	"crypto/sha256"
	"encoding/hex"
	"math/big"
	"math/rand"
	"slices"
	"strings"
	"testing"

	"thwart/digest"
)

// known are texts and their digests, which others tell, too.
var known = []struct{ text, sum string }{
	{"", "e3b0c44298fc1c149afbf4c8996fb92427ae41e4649b934ca495991b7852b855"},
	{"a", "ca978112ca1bbdcafac231b39a23dc4da786eff8147c4e72b9807785afee48bb"},
	{"abc", "ba7816bf8f01cfea414140de5dae2223b00361a396177a9cb410ff61f20015ad"},
	{"message digest", "f7846f55cf23e14eebeab5b4e1550cad5b509e3348fbc4efa3a1413d393cb650"},
	{"abcdbcdecdefdefgefghfghighijhijkijkljklmklmnlmnomnopnopq", "248d6a61d20638b8e5c026930c3e6039a33ce45964ff2167f6ecedd419db06c1"},
	{"abcdefghbcdefghicdefghijdefghijkefghijklfghijklmghijklmnhijklmnoijklmnopjklmnopqklmnopqrlmnopqrsmnopqrstnopqrstu", "cf5b16a778af8380036ce59e7b0492370b249b11e8f07a51afac45037afee9d1"},
	{strings.Repeat("a", 1000000), "cdc76e5c9914fb9281a1c7e284d73e67f1809a48a497200e046d39ccc7112cd0"},
}

// lists are bytes of many kinds, of each length of 0 up to some 300, and some
// long ones.
func lists() [][]byte {
	l := [][]byte{nil}
	for _, k := range known {
		l = append(l, []byte(k.text))
	}
	for _, c := range []byte{0, 1, 0x55, 0x7F, 0x80, 0xFF} {
		for n := range 200 {
			l = append(l, bytes.Repeat([]byte{c}, n))
		}
	}
	r := rand.New(rand.NewSource(12))
	for n := range 300 {
		l = append(l, random(r, n))
	}
	for _, n := range []int{1 << 13, 1<<13 + 1, 1<<16 - 9, 1 << 17, 1<<21 + 63} {
		l = append(l, random(r, n))
	}
	return l
}

func random(r *rand.Rand, n int) []byte {
	b := make([]byte, n)
	r.Read(b)
	return b
}

// written is a state of parts, one behind the other.
func written(parts ...[]byte) *digest.State {
	s := digest.New()
	for _, p := range parts {
		s.Write(p)
	}
	return s
}

// hold tells that a state is of these bytes: of their digest and of so many.
func hold(t *testing.T, what string, s *digest.State, b []byte) {
	t.Helper()
	if got, want := s.Sum(), digest.Sum(sha256.Sum256(b)); got != want {
		t.Errorf("%s: Sum() = %x, not %x", what, got, want)
	}
	if n := s.Len(); n != uint64(len(b)) {
		t.Errorf("%s: Len() = %d, not %d", what, n, len(b))
	}
}

// rootBits are the first 32 bits behind the point of a prime's root, looked for
// bit by bit.
func rootBits(prime int64, power int64) *big.Int {
	most := new(big.Int).Lsh(big.NewInt(prime), uint(32*power))
	root := new(big.Int)
	for i := 48; i >= 0; i-- {
		root.SetBit(root, i, 1)
		if new(big.Int).Exp(root, big.NewInt(power), nil).Cmp(most) > 0 {
			root.SetBit(root, i, 0)
		}
	}
	return root.Mod(root, big.NewInt(1<<32))
}

func roots(power int64, count int) []*big.Int {
	var l []*big.Int
	for p := int64(2); len(l) < count; p++ {
		if big.NewInt(p).ProbablyPrime(0) {
			l = append(l, rootBits(p, power))
		}
	}
	return l
}

// word is a word as bits, the highest first.
type word [32]bool

func bitsOf(n *big.Int) word {
	var w word
	for i := range w {
		w[31-i] = n.Bit(i) == 1
	}
	return w
}

func (w word) number() *big.Int {
	n := new(big.Int)
	for i, bit := range w {
		if bit {
			n.SetBit(n, 31-i, 1)
		}
	}
	return n
}

// turns are all turns of a word to the right, and, if it is not 0, its shift,
// turned by each other.
func (w word) turns(shift int, turns ...int) *big.Int {
	var out word
	for i := range out {
		for _, by := range turns {
			out[i] = out[i] != w[(i-by+32)%32]
		}
		if shift > 0 && i >= shift {
			out[i] = out[i] != w[i-shift]
		}
	}
	return out.number()
}

func sumOf(l ...*big.Int) *big.Int {
	n := new(big.Int)
	for _, x := range l {
		n.Add(n, x)
	}
	return n.Mod(n, big.NewInt(1<<32))
}

// wanted is the digest by the chapter's words, with words that are numbers and
// bits, and roots that are looked for.
func wanted(b []byte) digest.Sum {
	k := roots(3, 64)
	state := roots(2, 8)
	filled := append(bytes.Clone(b), 128)
	for len(filled)%64 != 56 {
		filled = append(filled, 0)
	}
	count := big.NewInt(8 * int64(len(b)))
	filled = append(filled, count.FillBytes(make([]byte, 8))...)
	for block := range slices.Chunk(filled, 64) {
		round(state, block, k)
	}
	var sum digest.Sum
	for i, x := range state {
		x.FillBytes(sum[4*i : 4*i+4])
	}
	return sum
}

func round(state []*big.Int, block []byte, k []*big.Int) {
	var w []*big.Int
	for four := range slices.Chunk(block, 4) {
		w = append(w, new(big.Int).SetBytes(four))
	}
	for i := 16; i < 64; i++ {
		w = append(w, sumOf(w[i-16], bitsOf(w[i-15]).turns(3, 7, 18), w[i-7], bitsOf(w[i-2]).turns(10, 17, 19)))
	}
	v := slices.Clone(state)
	for i := range 64 {
		a, b, c, e, f, g := bitsOf(v[0]), bitsOf(v[1]), bitsOf(v[2]), bitsOf(v[4]), bitsOf(v[5]), bitsOf(v[6])
		picked, most := g, a
		for j := range 32 {
			if e[j] {
				picked[j] = f[j]
			}
			if b[j] == c[j] {
				most[j] = b[j]
			}
		}
		t1 := sumOf(v[7], e.turns(0, 6, 11, 25), picked.number(), k[i], w[i])
		t2 := sumOf(a.turns(0, 2, 13, 22), most.number())
		v = []*big.Int{sumOf(t1, t2), v[0], v[1], v[2], sumOf(v[3], t1), v[4], v[5], v[6]}
	}
	for i := range state {
		state[i] = sumOf(state[i], v[i])
	}
}

func TestOf(t *testing.T) { // P12.1
	for _, k := range known {
		if d := digest.Of([]byte(k.text)); hex.EncodeToString(d[:]) != k.sum {
			t.Errorf("Of(%.60q) = %x, not %s", k.text, d, k.sum)
		}
	}
	if d := digest.Of(nil); !bytes.Equal(d[:4], []byte{0xE3, 0xB0, 0xC4, 0x42}) {
		t.Errorf("Of(nil) = %x", d)
	}
	for _, b := range lists() {
		if d := digest.Of(b); d != sha256.Sum256(b) {
			t.Errorf("Of(%.60x), of %d bytes, = %x, not %x", b, len(b), d, sha256.Sum256(b))
		}
	}
}

func TestOfByTheChapter(t *testing.T) { // P12.1
	r := rand.New(rand.NewSource(1))
	for _, n := range []int{0, 1, 3, 4, 54, 55, 56, 57, 63, 64, 65, 119, 120, 121, 127, 128, 129, 200} {
		b := random(r, n)
		if d := digest.Of(b); d != wanted(b) {
			t.Errorf("Of(%x) = %x, not %x", b, d, wanted(b))
		}
	}
}

// TestOfOneOther turns each bit, adds a byte 0, and takes one away: all these
// have another digest.
func TestOfOneOther(t *testing.T) { // P12.1
	r := rand.New(rand.NewSource(2))
	for _, n := range []int{1, 55, 56, 64, 130} {
		b := random(r, n)
		seen := map[digest.Sum]bool{digest.Of(b): true, digest.Of(append(bytes.Clone(b), 0)): true, digest.Of(b[1:]): true}
		for i := range 8 * n {
			other := bytes.Clone(b)
			other[i/8] ^= 1 << (i % 8)
			seen[digest.Of(other)] = true
		}
		if len(seen) != 8*n+3 {
			t.Errorf("of %d bytes that are others %d have one digest", n, 8*n+3-len(seen))
		}
	}
}

func TestNew(t *testing.T) { // P12.1
	s := digest.New()
	if s == nil {
		t.Fatal("New() is nil")
	}
	hold(t, "a new state", s, nil)
	s.Write([]byte("abc"))
	hold(t, "a state of abc", s, []byte("abc"))
	hold(t, "another new state", digest.New(), nil)
}

func TestWrite(t *testing.T) { // P12.1
	for _, b := range lists() {
		hold(t, "written at once", written(b), b)
	}
	r := rand.New(rand.NewSource(3))
	s := digest.New()
	var all []byte
	for n := range 200 {
		piece := random(r, n)
		all = append(all, piece...)
		s.Write(piece)
		hold(t, "a piece more", s, all)
		s.Write(nil)
		s.Write([]byte{})
		hold(t, "a piece of no bytes more", s, all)
	}
}

// TestLongWrite has more bits than 32 bits tell.
func TestLongWrite(t *testing.T) { // P12.1
	if testing.Short() {
		t.Skip("takes some seconds")
	}
	t.Parallel()
	piece := bytes.Repeat([]byte("0123456789abcdef"), 1<<16)
	s, want := digest.New(), sha256.New()
	for range 1 << 9 {
		s.Write(piece)
		want.Write(piece)
	}
	s.Write([]byte("!"))
	want.Write([]byte("!"))
	if d := s.Sum(); !bytes.Equal(d[:], want.Sum(nil)) {
		t.Errorf("of 2^29 + 1 bytes: %x, not %x", d, want.Sum(nil))
	}
	if n := s.Len(); n != 1<<29+1 {
		t.Errorf("of 2^29 + 1 bytes: Len() = %d", n)
	}
}

func TestNobodys(t *testing.T) { // P12.1
	for name, s := range map[string]*digest.State{"nil": nil, "of New's": {}, "of new's": new(digest.State)} {
		for range 2 {
			for _, b := range [][]byte{nil, {}, []byte("abc"), bytes.Repeat([]byte{7}, 64), bytes.Repeat([]byte{8}, 1000)} {
				if d := s.Sum(); d != (digest.Sum{}) {
					t.Errorf("a state %s: Sum() = %x", name, d)
				}
				if n := s.Len(); n != 0 {
					t.Errorf("a state %s: Len() = %d", name, n)
				}
				if c := digest.Clone(s); c != nil {
					t.Errorf("a state %s: Clone is not nil", name)
				}
				s.Write(b)
			}
		}
		if s != nil && *s != (digest.State{}) {
			t.Errorf("a state %s took something", name)
		}
	}
}

func TestClone(t *testing.T) { // P12.1
	r := rand.New(rand.NewSource(4))
	for n := range 140 {
		b, x, y := random(r, n), random(r, r.Intn(140)), random(r, r.Intn(140))
		s := written(b)
		c := digest.Clone(s)
		if c == nil || c == s {
			t.Fatalf("of %d bytes: Clone(%p) = %p", n, s, c)
		}
		hold(t, "a clone", c, b)
		c.Write(x)
		hold(t, "a clone that went on", c, slices.Concat(b, x))
		hold(t, "a state whose clone went on", s, b)
		s.Write(y)
		hold(t, "a state that went on", s, slices.Concat(b, y))
		hold(t, "a clone whose state went on", c, slices.Concat(b, x))
		of := digest.Clone(c)
		of.Write(y)
		hold(t, "a clone of a clone", of, slices.Concat(b, x, y))
		hold(t, "a clone whose clone went on", c, slices.Concat(b, x))
		c.Sum()
		c.Write(y)
		hold(t, "a clone that went on once more", c, slices.Concat(b, x, y))
	}
	hold(t, "a clone of a new state", digest.Clone(digest.New()), nil)
}

// TestEachCut cuts bytes at all places, in two and in three, and into parts of
// one length.
func TestEachCut(t *testing.T) { // P12.2
	b := random(rand.New(rand.NewSource(5)), 150)
	for i := range len(b) + 1 {
		hold(t, "cut in two", written(b[:i], b[i:]), b)
		for j := i; j <= len(b); j += 3 {
			hold(t, "cut in three", written(b[:i], b[i:j], b[j:]), b)
		}
	}
	for long := 1; long <= len(b); long++ {
		hold(t, "cut in parts", written(slices.Collect(slices.Chunk(b, long))...), b)
	}
	long := random(rand.New(rand.NewSource(6)), 1<<15+5)
	for _, n := range []int{1, 63, 64, 65, 127, 128, 256, 512, 1000} {
		hold(t, "long, cut in parts", written(slices.Collect(slices.Chunk(long, n))...), long)
	}
}

// TestCutsAtRandom cuts into pieces of any lengths, none too, and asks for the
// digest at any time.
func TestCutsAtRandom(t *testing.T) { // P12.2
	r := rand.New(rand.NewSource(7))
	for range 200 {
		b := random(r, r.Intn(3000))
		s := digest.New()
		for at := 0; at < len(b); {
			n := min(r.Intn(1+r.Intn(200)), len(b)-at)
			s.Write(b[at : at+n])
			at += n
			if r.Intn(3) == 0 {
				hold(t, "cut at random, so far", s, b[:at])
			}
		}
		hold(t, "cut at random", s, b)
	}
}

func TestSumTurnsNothing(t *testing.T) { // P12.2
	b := random(rand.New(rand.NewSource(8)), 300)
	s := digest.New()
	for i := range b {
		was := *s
		first := s.Sum()
		if again := s.Sum(); again != first {
			t.Errorf("of %d bytes: Sum() = %x, and then %x", i, first, again)
		}
		if *s != was {
			t.Errorf("of %d bytes: Sum turned the state", i)
		}
		hold(t, "asked for its digest", s, b[:i])
		s.Write(b[i : i+1])
	}
	hold(t, "asked for its digest at each byte", s, b)
}

func TestNothingIsWrittenOrShared(t *testing.T) { // R3, R4
	for _, n := range []int{0, 1, 55, 56, 63, 64, 65, 128, 200} {
		wide := append(bytes.Repeat([]byte{5}, n), "room behind, of more bytes than any block that is filled up has at its end"...)
		was := bytes.Clone(wide)
		b := wide[:n]
		s := written(b)
		d := s.Sum()
		if digest.Of(b) != d || !bytes.Equal(wide, was) {
			t.Errorf("%d bytes were turned to %x", n, wide)
		}
		clear(wide)
		hold(t, "of bytes that are others by now", s, was[:n])
		clear(d[:])
		hold(t, "whose digest was cleared", s, was[:n])
	}
}
