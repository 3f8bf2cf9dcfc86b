package check_test

import (
	"bytes"
	"hash/crc32"
	"math/big"
	"math/rand"
	"slices"
	"testing"

	"thwart/api"
	"thwart/check"
)

// known are texts and their sums, which others tell, too.
var known = []struct {
	text string
	sum  uint32
}{
	{"", 0},
	{"\x00", 0xD202EF8D},
	{"\xff", 0xFF000000},
	{"\x00\x00\x00\x00", 0x2144DF1C},
	{"\xff\xff\xff\xff", 0xFFFFFFFF},
	{"a", 0xE8B7BE43},
	{"abc", 0x352441C2},
	{"123456789", 0xCBF43926},
	{"The quick brown fox jumps over the lazy dog", 0x414FA339},
}

// lists are bytes of many kinds, of 0 up to some 300, and some long ones.
func lists() [][]byte {
	var l [][]byte
	for _, k := range known {
		l = append(l, []byte(k.text))
	}
	for c := range 256 {
		l = append(l, []byte{byte(c)})
	}
	for _, c := range []byte{0, 1, 0x55, 0x80, 0xFF} {
		for _, n := range []int{2, 3, 4, 5, 8, 31, 32, 33, 255, 256, 257} {
			l = append(l, bytes.Repeat([]byte{c}, n))
		}
	}
	r := rand.New(rand.NewSource(11))
	for n := range 300 {
		b := make([]byte, n)
		r.Read(b)
		l = append(l, b)
	}
	long := make([]byte, 1<<17)
	r.Read(long)
	return append(l, long)
}

// stepWanted turns and shifts by the chapter's words, in digits of base 2, the
// highest first.
func stepWanted(reg uint32, c byte) uint32 {
	var bits, turned [32]bool
	for i := range 32 {
		bits[31-i] = reg>>i&1 == 1
		turned[31-i] = 0xEDB88320>>i&1 == 1
	}
	for i := range 8 {
		bits[31-i] = bits[31-i] != (c>>i&1 == 1)
	}
	for range 8 {
		fell := bits[31]
		copy(bits[1:], bits[:31])
		bits[0] = false
		for i := range bits {
			bits[i] = bits[i] != (fell && turned[i])
		}
	}
	var out uint32
	for _, bit := range bits {
		out *= 2
		if bit {
			out++
		}
	}
	return out
}

// sumWanted has no register: the sum is what is left of a division without carry,
// of the bytes as a number (each byte's lowest bit first, 32 bits 0 behind), of
// which the first 32 bits were turned.
func sumWanted(b []byte) uint32 {
	n := new(big.Int)
	for _, c := range b {
		for i := range 8 {
			n.Lsh(n, 1)
			n.SetBit(n, 0, uint(c>>i&1))
		}
	}
	n.Lsh(n, 32)
	ones := new(big.Int).Lsh(big.NewInt(0xFFFFFFFF), uint(8*len(b)))
	n.Xor(n, ones)
	by := big.NewInt(0x104C11DB7)
	for n.BitLen() > 32 {
		n.Xor(n, new(big.Int).Lsh(by, uint(n.BitLen()-33)))
	}
	var sum uint32
	for i := range 32 {
		sum |= uint32(n.Bit(i)^1) << (31 - i)
	}
	return sum
}

// sealWanted puts a sum behind by the library's.
func sealWanted(b []byte) []byte {
	n := crc32.ChecksumIEEE(b)
	return append(bytes.Clone(b), byte(n), byte(n>>8), byte(n>>16), byte(n>>24))
}

func TestSum(t *testing.T) { // P11.1
	for _, k := range known {
		if n := check.Sum([]byte(k.text)); n != k.sum {
			t.Errorf("Sum(%q) = %08X, not %08X", k.text, n, k.sum)
		}
	}
	if n := check.Sum(nil); n != 0 {
		t.Errorf("Sum(nil) = %08X", n)
	}
	for _, b := range lists() {
		if n := check.Sum(b); n != crc32.ChecksumIEEE(b) {
			t.Errorf("Sum(%.40x) = %08X, not %08X", b, n, crc32.ChecksumIEEE(b))
		}
		if n := check.Sum(b); len(b) < 400 && n != sumWanted(b) {
			t.Errorf("Sum(%x) = %08X, not %08X", b, n, sumWanted(b))
		}
	}
}

func TestStep(t *testing.T) { // P11.1
	for _, c := range []struct {
		reg  uint32
		c    byte
		want uint32
	}{
		{0, 0, 0},
		{0, 1, 0x77073096},
		{0, 0x80, 0xEDB88320},
		{0, 0xFF, 0x2D02EF8D},
		{1, 0, 0x77073096},
		{0xFF, 0xFF, 0},
		{0x100, 0, 1},
		{0xFFFFFF00, 0, 0x00FFFFFF},
		{0xFFFFFFFF, 0, 0x2DFD1072},
		{0xFFFFFFFF, 0xFF, 0x00FFFFFF},
		{0x80000000, 0, 0x00800000},
	} {
		if n := check.Step(c.reg, c.c); n != c.want {
			t.Errorf("Step(%08X, %02X) = %08X, not %08X", c.reg, c.c, n, c.want)
		}
	}
	regs := []uint32{0, 1, 2, 0x80, 0xFF, 0x100, 0xFF00, 0x10000, 0xFF0000, 0x1000000, 0x7FFFFFFF, 0x80000000, 0xEDB88320, 0xFFFFFFFE, 0xFFFFFFFF}
	r := rand.New(rand.NewSource(1))
	for range 60 {
		regs = append(regs, r.Uint32())
	}
	for _, reg := range regs {
		for c := range 256 {
			if n, want := check.Step(reg, byte(c)), stepWanted(reg, byte(c)); n != want {
				t.Errorf("Step(%08X, %02X) = %08X, not %08X", reg, c, n, want)
			}
		}
	}
}

// TestStepsMakeASum begins at a register of bits 1 and turns all bits at the end:
// Step itself does neither.
func TestStepsMakeASum(t *testing.T) { // P11.1
	for _, b := range lists() {
		reg := uint32(0xFFFFFFFF)
		for _, c := range b {
			reg = check.Step(reg, c)
		}
		if ^reg != check.Sum(b) {
			t.Errorf("the steps of %.40x end at %08X, its sum is %08X", b, reg, check.Sum(b))
		}
	}
}

func TestOf(t *testing.T) { // P11.1
	abc := check.Sum([]byte("abc"))
	for _, c := range []struct {
		parts [][]byte
		want  uint32
	}{
		{nil, 0},
		{[][]byte{}, 0},
		{[][]byte{nil}, 0},
		{[][]byte{{}, nil, {}}, 0},
		{[][]byte{[]byte("abc")}, abc},
		{[][]byte{[]byte("a"), []byte("bc")}, abc},
		{[][]byte{[]byte("ab"), []byte("c")}, abc},
		{[][]byte{[]byte("a"), []byte("b"), []byte("c")}, abc},
		{[][]byte{nil, []byte("a"), nil, {}, []byte("bc"), nil}, abc},
		// The order of the parts counts, and one that comes again counts again.
		{[][]byte{[]byte("bc"), []byte("a")}, crc32.ChecksumIEEE([]byte("bca"))},
		{[][]byte{[]byte("c"), []byte("b"), []byte("a")}, crc32.ChecksumIEEE([]byte("cba"))},
		{[][]byte{[]byte("abc"), []byte("abc")}, crc32.ChecksumIEEE([]byte("abcabc"))},
	} {
		if n := check.Of(c.parts...); n != c.want {
			t.Errorf("Of(%q) = %08X, not %08X", c.parts, n, c.want)
		}
	}
	if n := check.Of(); n != 0 {
		t.Errorf("Of() = %08X", n)
	}
	if n := check.Of([]byte("1234"), nil, []byte("5"), []byte("6789")); n != 0xCBF43926 {
		t.Errorf("Of four parts = %08X", n)
	}
}

// TestOfEachCut cuts bytes at all places, in two and in three, and into so many
// parts of one length.
func TestOfEachCut(t *testing.T) { // P11.1
	b := make([]byte, 70)
	rand.New(rand.NewSource(2)).Read(b)
	want := crc32.ChecksumIEEE(b)
	for i := range len(b) + 1 {
		if n := check.Of(b[:i], b[i:]); n != want {
			t.Errorf("Of, cut at %d, = %08X, not %08X", i, n, want)
		}
		for j := i; j <= len(b); j++ {
			if n := check.Of(b[:i], b[i:j], b[j:]); n != want {
				t.Errorf("Of, cut at %d and %d, = %08X, not %08X", i, j, n, want)
			}
		}
	}
	for long := 1; long <= len(b); long++ {
		if n := check.Of(slices.Collect(slices.Chunk(b, long))...); n != want {
			t.Errorf("Of, cut in parts of %d, = %08X, not %08X", long, n, want)
		}
	}
}

func TestSeal(t *testing.T) { // P11.2
	for _, c := range []struct{ b, want string }{
		{"", "\x00\x00\x00\x00"},
		{"\x00", "\x00\x8d\xef\x02\xd2"},
		{"\xff", "\xff\x00\x00\x00\xff"},
		{"abc", "abc\xc2\x41\x24\x35"},
		{"123456789", "123456789\x26\x39\xf4\xcb"},
	} {
		if b := check.Seal([]byte(c.b)); string(b) != c.want {
			t.Errorf("Seal(%q) = %q, not %q", c.b, b, c.want)
		}
	}
	if b := check.Seal(nil); !bytes.Equal(b, []byte{0, 0, 0, 0}) {
		t.Errorf("Seal(nil) = %q", b)
	}
	for _, b := range lists() {
		if got := check.Seal(b); !bytes.Equal(got, sealWanted(b)) {
			t.Errorf("Seal(%.40x) = %x at its end, not %x", b, got[max(0, len(got)-4):], sealWanted(b)[len(b):])
		}
	}
}

func TestOpen(t *testing.T) { // P11.2
	for _, c := range []struct {
		b, want string
		e       api.Errno
	}{
		{"", "", api.ErrEnd},
		{"\x00", "", api.ErrEnd},
		{"\x00\x00", "", api.ErrEnd},
		{"\x00\x00\x00", "", api.ErrEnd},
		{"\x41\x24\x35", "", api.ErrEnd},
		{"\x00\x00\x00\x00", "", api.OK},
		{"\x01\x00\x00\x00", "", api.ErrSum},
		{"\x00\x00\x00\x01", "", api.ErrSum},
		{"\xff\xff\xff\xff", "", api.ErrSum},
		{"abc\xc2\x41\x24\x35", "abc", api.OK},
		// The other way round, turned, and of a register that began at 0.
		{"abc\x35\x24\x41\xc2", "", api.ErrSum},
		{"abc\x3d\xbe\xdb\xca", "", api.ErrSum},
		{"abc\x00\x00\x00\x00", "", api.ErrSum},
		{"\x00\x00\x00\x00\x00", "", api.ErrSum},
		// Cut off, or with bytes behind or ahead.
		{"abc\xc2\x41\x24", "", api.ErrSum},
		{"abc", "", api.ErrEnd},
		{"abc\xc2\x41\x24\x35\x00", "", api.ErrSum},
		{"abc\xc2\x41\x24\x35\x35", "", api.ErrSum},
		{"\x00abc\xc2\x41\x24\x35", "", api.ErrSum},
		{"bc\xc2\x41\x24\x35", "", api.ErrSum},
		{"acb\xc2\x41\x24\x35", "", api.ErrSum},
		{"123456789\x26\x39\xf4\xcb", "123456789", api.OK},
		{"123456789\xcb\xf4\x39\x26", "", api.ErrSum},
	} {
		if b, e := check.Open([]byte(c.b)); string(b) != c.want || e != c.e || e != api.OK && b != nil {
			t.Errorf("Open(%q) = %q, %d, not %q, %d", c.b, b, e, c.want, c.e)
		}
	}
	if b, e := check.Open(nil); b != nil || e != api.ErrEnd {
		t.Errorf("Open(nil) = %q, %d", b, e)
	}
	for _, l := range lists() {
		want, e := []byte(nil), api.ErrSum
		if len(l) < 4 {
			e = api.ErrEnd
		} else if bytes.Equal(l, sealWanted(l[:len(l)-4])) {
			want, e = l[:len(l)-4], api.OK
		}
		if b, got := check.Open(l); !bytes.Equal(b, want) || got != e {
			t.Errorf("Open(%.40x) = %.40x, %d, not %d", l, b, got, e)
		}
	}
}

func TestSealedIsOpened(t *testing.T) { // P11.3
	for _, b := range lists() {
		if got, e := check.Open(check.Seal(b)); !bytes.Equal(got, b) || e != api.OK {
			t.Errorf("Open(Seal(%.40x)) = %.40x, %d", b, got, e)
		}
		// Also once more about it.
		if got, e := check.Open(check.Seal(check.Seal(b))); !bytes.Equal(got, check.Seal(b)) || e != api.OK {
			t.Errorf("Open(Seal(Seal(%.40x))) = %.40x, %d", b, got, e)
		}
	}
}

// turned opens what is sealed with some bytes turned, and puts them back.
func turned(t *testing.T, sealed []byte, at int, by []byte) {
	t.Helper()
	for i, c := range by {
		sealed[at+i] ^= c
	}
	if b, e := check.Open(sealed); b != nil || e != api.ErrSum {
		t.Errorf("%d bytes, turned by %x at %d: %.40x, %d, not ErrSum", len(sealed), by, at, b, e)
	}
	for i, c := range by {
		sealed[at+i] ^= c
	}
}

// TestOneOtherByteIsFound turns each byte by each other one, those of the sum,
// too.
func TestOneOtherByteIsFound(t *testing.T) { // P11.3
	for _, n := range []int{0, 1, 2, 3, 4, 5, 9, 28, 40} {
		sealed := check.Seal(bytes.Repeat([]byte{byte(n), 7}, n)[:n])
		for at := range sealed {
			for by := 1; by < 256; by++ {
				turned(t, sealed, at, []byte{byte(by)})
			}
		}
	}
}

// TestFourOtherBytesAreFound turns two to four bytes in a row at each place, in
// the bytes, in their sum and across both.
func TestFourOtherBytesAreFound(t *testing.T) { // P11.3
	r := rand.New(rand.NewSource(3))
	edges := []byte{0, 1, 0x80, 0xFF}
	for _, n := range []int{0, 1, 2, 3, 4, 5, 31, 284} {
		b := make([]byte, n)
		r.Read(b)
		sealed := check.Seal(b)
		for at := range len(sealed) - 3 {
			for mask := 1; mask < 256; mask++ {
				turned(t, sealed, at, []byte{edges[mask&3], edges[mask>>2&3], edges[mask>>4&3], edges[mask>>6]})
			}
			for range 30 {
				by := make([]byte, 4)
				r.Read(by)
				by[r.Intn(4)] |= 1
				turned(t, sealed, at, by)
			}
			// What turns the register the same way, one byte away from it.
			for _, by := range [][]byte{{0x20, 0x83, 0xB8, 0xED}, {0xED, 0xB8, 0x83, 0x20}, {0xB7, 0x1D, 0xC1, 0x04}, {0x04, 0xC1, 0x1D, 0xB7}} {
				turned(t, sealed, at, by)
			}
		}
	}
}

func TestNothingIsWrittenOrShared(t *testing.T) { // R3, R4
	for _, text := range []string{"", "a", "abc", "\x00\x00\x00\x00", "abc\xc2\x41\x24\x35", "abc\xc2\x41\x24\x36", "123456789\x26\x39\xf4\xcb"} {
		wide := append([]byte(text), "room behind"...)
		b := wide[:len(text)]
		sealed := check.Seal(b)
		again := check.Seal(b)
		opened, _ := check.Open(b)
		check.Sum(b)
		check.Of(b, b)
		if string(wide) != text+"room behind" {
			t.Errorf("%q was turned to %q", text, wide)
		}
		wantSealed, wantOpened := bytes.Clone(sealed), bytes.Clone(opened)
		clear(wide)
		if !bytes.Equal(sealed, wantSealed) || !bytes.Equal(opened, wantOpened) {
			t.Errorf("answers of %q hang on what is written into it afterwards", text)
		}
		clear(sealed)
		if !bytes.Equal(again, wantSealed) {
			t.Errorf("two answers of Seal(%q) share their bytes", text)
		}
	}
	parts := [][]byte{[]byte("ab"), nil, []byte("c")}
	check.Of(parts...)
	if len(parts) != 3 || string(parts[0]) != "ab" || parts[1] != nil || string(parts[2]) != "c" {
		t.Errorf("Of turned its parts to %q", parts)
	}
}
