package numf_test

import (
	"bytes"
	"fmt"
	"math"
	"math/big"
	"slices"
	"strings"
	"testing"

	"thwart/api"
	"thwart/numf"
)

var widths = []int{8, 12}

// noWidths are numbers that are no field's width, nor digits that may be.
var noWidths = []int{math.MinInt, -12, -8, -1, 0, 1, 7, 9, 10, 11, 13, 16, 24, math.MaxInt}

// edges are the numbers around each power of two, on both sides of 0: all
// bounds that the chapter names are among them.
func edges() []int64 {
	l := []int64{0, 8, -8, 63, 511, 4095, math.MaxInt64, math.MinInt64, math.MinInt64 + 1}
	for k := 0; k < 63; k++ {
		p := int64(1) << k
		l = append(l, p-1, p, p+1, -p-1, -p, -p+1)
	}
	return l
}

// power is base to the power of n.
func power(base, n int64) *big.Int {
	return new(big.Int).Exp(big.NewInt(base), big.NewInt(n), nil)
}

// mostWanted is the greatest number of so many octal digits, by its words.
func mostWanted(digits int) int64 {
	if digits < 1 {
		return 0
	}
	return power(8, int64(min(digits, 20))).Int64() - 1
}

// laidWanted lays a number by the chapter's words, in numbers without a bound.
func laidWanted(n int64, width int) ([]byte, api.Errno) {
	if n >= 0 && n <= mostWanted(width-1) {
		return []byte(fmt.Sprintf("%0*o\x00", width-1, n)), api.OK
	}
	b := make([]byte, width)
	b[0] = 0x80
	v := big.NewInt(n)
	if n < 0 {
		b[0] = 0xFF
		v.Add(v, power(256, int64(width-1)))
	}
	if v.Sign() < 0 || v.Cmp(power(256, int64(width-1))) >= 0 {
		return nil, api.ErrBig
	}
	v.FillBytes(b[1:])
	return b, api.OK
}

// readWanted reads a field of base 256 by the chapter's words.
func readWanted(b []byte) (int64, api.Errno) {
	v := new(big.Int).SetBytes(b[1:])
	if b[0] == 0xFF {
		v.Sub(v, power(256, int64(len(b)-1)))
	}
	if !v.IsInt64() {
		return 0, api.ErrBig
	}
	return v.Int64(), api.OK
}

// bytes256 is a field of that width: its first byte, the bytes behind it, and
// fill between them.
func bytes256(width int, first, fill byte, last ...byte) []byte {
	b := bytes.Repeat([]byte{fill}, width)
	b[0] = first
	copy(b[width-len(last):], last)
	return b
}

func TestMost(t *testing.T) { // P1.1
	for _, c := range []struct {
		digits int
		want   int64
	}{
		{math.MinInt, 0}, {-1, 0}, {0, 0}, {1, 7}, {2, 63}, {7, 2097151}, {11, 8589934591},
		{19, 1<<57 - 1}, {20, 1<<60 - 1}, {21, 1<<60 - 1}, {22, 1<<60 - 1}, {math.MaxInt, 1<<60 - 1},
	} {
		if got := numf.Most(c.digits); got != c.want {
			t.Errorf("Most(%d) = %d, not %d", c.digits, got, c.want)
		}
	}
	for d := -2; d <= 24; d++ {
		if got, want := numf.Most(d), mostWanted(d); got != want {
			t.Errorf("Most(%d) = %d, not %d", d, got, want)
		}
	}
}

func TestOctal(t *testing.T) { // P1.1
	for _, c := range []struct {
		n      int64
		digits int
		want   string
	}{
		{0, 1, "0"}, {7, 1, "7"}, {8, 2, "10"}, {8, 7, "0000010"}, {0, 3, "000"}, {0o644, 6, "000644"},
		{1<<60 - 1, 20, strings.Repeat("7", 20)}, {1, 20, strings.Repeat("0", 19) + "1"},
	} {
		if b, e := numf.Octal(c.n, c.digits); string(b) != c.want || e != api.OK {
			t.Errorf("Octal(%d, %d) = %q, %d", c.n, c.digits, b, e)
		}
	}
	for d := 1; d <= 20; d++ {
		for _, n := range edges() {
			b, e := numf.Octal(n, d)
			if n < 0 || n > mostWanted(d) {
				if b != nil || e != api.ErrBig {
					t.Errorf("Octal(%d, %d) = %q, %d, not ErrBig", n, d, b, e)
				}
			} else if want := fmt.Sprintf("%0*o", d, n); string(b) != want || e != api.OK {
				t.Errorf("Octal(%d, %d) = %q, %d, not %q", n, d, b, e, want)
			}
		}
	}
}

func TestOctalOfNoDigits(t *testing.T) { // P1.1: ErrArg stands ahead of ErrBig
	for _, d := range []int{math.MinInt, -20, -1, 0, 21, 22, 64, math.MaxInt} {
		for _, n := range []int64{0, 1, -1, math.MaxInt64, math.MinInt64} {
			if b, e := numf.Octal(n, d); b != nil || e != api.ErrArg {
				t.Errorf("Octal(%d, %d) = %q, %d, not ErrArg", n, d, b, e)
			}
		}
	}
}

func TestPlain(t *testing.T) { // P1.1
	for _, w := range widths {
		for _, n := range edges() {
			if got, want := numf.Plain(n, w), n >= 0 && n <= mostWanted(w-1); got != want {
				t.Errorf("Plain(%d, %d) = %t", n, w, got)
			}
		}
	}
	for _, w := range noWidths {
		for _, n := range []int64{0, 1, -1, math.MaxInt64} {
			if numf.Plain(n, w) {
				t.Errorf("Plain(%d, %d): that is no width", n, w)
			}
		}
	}
}

func TestPut(t *testing.T) { // P1.1
	for _, c := range []struct {
		n     int64
		width int
		want  []byte
	}{
		{8, 8, []byte{48, 48, 48, 48, 48, 49, 48, 0}},
		{-1, 8, bytes.Repeat([]byte{0xFF}, 8)},
		{-1, 12, bytes.Repeat([]byte{0xFF}, 12)},
		{0, 8, []byte("0000000\x00")},
		{0, 12, []byte("00000000000\x00")},
		{2097151, 8, []byte("7777777\x00")},
		{2097152, 8, []byte{0x80, 0, 0, 0, 0, 0x20, 0, 0}},
		{8589934591, 12, []byte("77777777777\x00")},
		{8589934592, 12, []byte{0x80, 0, 0, 0, 0, 0, 0, 2, 0, 0, 0, 0}},
		{0x01020304050607, 8, []byte{0x80, 1, 2, 3, 4, 5, 6, 7}},
		{-256, 8, []byte{0xFF, 0xFF, 0xFF, 0xFF, 0xFF, 0xFF, 0xFF, 0}},
		{1<<56 - 1, 8, bytes256(8, 0x80, 0xFF)},
		{-1 << 56, 8, bytes256(8, 0xFF, 0)},
		{math.MaxInt64, 12, []byte{0x80, 0, 0, 0, 0x7F, 0xFF, 0xFF, 0xFF, 0xFF, 0xFF, 0xFF, 0xFF}},
		{math.MinInt64, 12, []byte{0xFF, 0xFF, 0xFF, 0xFF, 0x80, 0, 0, 0, 0, 0, 0, 0}},
	} {
		if b, e := numf.Put(c.n, c.width); !bytes.Equal(b, c.want) || e != api.OK {
			t.Errorf("Put(%d, %d) = %v, %d, not %v", c.n, c.width, b, e, c.want)
		}
	}
	for _, w := range widths {
		for _, n := range edges() {
			want, wantErr := laidWanted(n, w)
			if b, e := numf.Put(n, w); !bytes.Equal(b, want) || e != wantErr {
				t.Errorf("Put(%d, %d) = %v, %d, not %v, %d", n, w, b, e, want, wantErr)
			}
		}
	}
}

func TestPutTooBig(t *testing.T) { // P1.1
	for _, n := range []int64{1 << 56, -1<<56 - 1, 1 << 62, math.MaxInt64, math.MinInt64} {
		if b, e := numf.Put(n, 8); b != nil || e != api.ErrBig {
			t.Errorf("Put(%d, 8) = %v, %d, not ErrBig", n, b, e)
		}
	}
}

func TestPutOfNoWidth(t *testing.T) { // P1.1: ErrArg stands ahead of ErrBig
	for _, w := range noWidths {
		for _, n := range []int64{0, 8, -1, math.MaxInt64, math.MinInt64} {
			if b, e := numf.Put(n, w); b != nil || e != api.ErrArg {
				t.Errorf("Put(%d, %d) = %v, %d, not ErrArg", n, w, b, e)
			}
		}
	}
}

func TestGetOctal(t *testing.T) { // P1.2
	for _, c := range []struct {
		field string
		want  int64
	}{
		{"0000010\x00", 8}, {"0000644 ", 0o644}, {"00000644", 0o644}, {"77777777", 1<<24 - 1},
		{"777777777777", 1<<36 - 1}, {"00000000000\x00", 0}, {"0\x00\x00\x00\x00\x00\x00\x00", 0},
		{"7       ", 7}, {"       7", 7}, {"  644\x00 \x00", 0o644}, {"  644 \x00 ", 0o644},
		{"           5", 5}, {" 12345670123", 0o12345670123}, {"1 \x00 \x00 \x00 \x00 \x00 ", 1},
	} {
		if n, e := numf.Get([]byte(c.field)); n != c.want || e != api.OK {
			t.Errorf("Get(%q) = %d, %d, not %d", c.field, n, e, c.want)
		}
	}
}

func TestGetNoField(t *testing.T) { // P1.2
	for _, f := range []string{
		"        ", "            ", "\x00\x00\x00\x00\x00\x00\x00\x00", strings.Repeat("\x00", 12),
		"    \x00\x00\x00\x00", "\x000000010", " \x00000010", "\t0000010", "0000018\x00", "8000000\x00", "000000/\x00",
		"-000001\x00", "+000001\x00", "0x00010\x00", "0000 10\x00", "0000\x0010\x00", "000010\x00\t", "000010\x00\n",
		"0000010\x01", "0000010a", "       8", "       a", "\x810000010", "\x7f0000010", "\xfe0000010",
		"\x01000000\x00", "0\x80000000", "0\xff000000", " \x80\x00\x00\x00\x00\x00\x01", " \xff\xff\xff\xff\xff\xff\xff",
		"\u00a0000010", "0000000\x00777x", "00000000000\xff", "000000000009", " \x80\x00\x00\x00\x00\x00\x00\x00\x00\x00\x01",
	} {
		if n, e := numf.Get([]byte(f)); n != 0 || e != api.ErrForm {
			t.Errorf("Get(%q) = %d, %d, not ErrForm", f, n, e)
		}
		if numf.Exact([]byte(f)) {
			t.Errorf("Exact(%q) of no field", f)
		}
	}
}

// TestGetEachByte puts each byte in each place of a field: one of the forms is left, or none.
func TestGetEachByte(t *testing.T) { // P1.2
	for _, w := range widths {
		for at := 0; at < w; at++ {
			for c := 0; c < 256; c++ {
				b := []byte(strings.Repeat("1", w-1) + " ")
				b[at] = byte(c)
				if at == 0 && (c == 0x80 || c == 0xFF) {
					continue
				}
				octal := c >= '0' && c <= '7'
				may := octal || at == 0 && c == ' ' || at >= w-2 && (c == 0 || c == ' ')
				if _, e := numf.Get(b); may != (e == api.OK) || !may && e != api.ErrForm {
					t.Errorf("Get(%q): %d", b, e)
				}
			}
		}
	}
}

func TestGetBytes(t *testing.T) { // P1.2
	for _, c := range []struct {
		field []byte
		want  int64
	}{
		{bytes256(8, 0x80, 0), 0},
		{bytes256(8, 0x80, 0, 8), 8},
		{bytes256(8, 0x80, 0xFF), 1<<56 - 1},
		{bytes256(8, 0x80, 0, 0x80, 0, 0, 0, 0, 0, 0), 1 << 55},
		{bytes256(8, 0xFF, 0xFF), -1},
		{bytes256(8, 0xFF, 0), -1 << 56},
		{bytes256(8, 0xFF, 0, 1), -1<<56 + 1},
		{bytes256(12, 0x80, 0), 0},
		{bytes256(12, 0x80, 0, 1, 2), 258},
		{bytes256(12, 0x80, 0, 0x7F, 0xFF, 0xFF, 0xFF, 0xFF, 0xFF, 0xFF, 0xFF), math.MaxInt64},
		{bytes256(12, 0xFF, 0xFF), -1},
		{bytes256(12, 0xFF, 0xFF, 0x80, 0, 0, 0, 0, 0, 0, 0), math.MinInt64},
		{bytes256(12, 0xFF, 0xFF, 0), -256},
	} {
		if n, e := numf.Get(c.field); n != c.want || e != api.OK {
			t.Errorf("Get(%v) = %d, %d, not %d", c.field, n, e, c.want)
		}
	}
}

func TestGetTooBig(t *testing.T) { // P1.2: only a field of 12 bytes has room for such a number
	for _, f := range [][]byte{
		bytes256(12, 0x80, 0, 0x80, 0, 0, 0, 0, 0, 0, 0),
		bytes256(12, 0x80, 0xFF),
		bytes256(12, 0x80, 0, 1, 0, 0, 0, 0, 0, 0, 0, 0),
		bytes256(12, 0x80, 0, 1, 0, 0, 0, 0, 0, 0, 0, 0, 0, 0),
		bytes256(12, 0xFF, 0),
		bytes256(12, 0xFF, 0xFF, 0x7F, 0xFF, 0xFF, 0xFF, 0xFF, 0xFF, 0xFF, 0xFF),
		bytes256(12, 0xFF, 0xFF, 0xFE, 0xFF, 0xFF, 0xFF, 0xFF, 0xFF, 0xFF, 0xFF, 0xFF),
		bytes256(12, 0xFF, 0xFF, 0xFE, 0xFF, 0xFF, 0xFF, 0xFF, 0xFF, 0xFF, 0xFF, 0xFF, 0xFF, 0xFF),
	} {
		if n, e := numf.Get(f); n != 0 || e != api.ErrBig {
			t.Errorf("Get(%v) = %d, %d, not ErrBig", f, n, e)
		}
		if numf.Exact(f) {
			t.Errorf("Exact(%v) of a number that is none of 64 bits", f)
		}
	}
}

// TestGetAllBytes256 holds fields with an edge of each byte's at each place
// against numbers without a bound.
func TestGetAllBytes256(t *testing.T) { // P1.2
	for _, w := range widths {
		for _, first := range []byte{0x80, 0xFF} {
			for _, fill := range []byte{0, 1, 0x7F, 0x80, 0xFE, 0xFF} {
				for at := 1; at < w; at++ {
					for _, c := range []byte{0, 1, 0x7F, 0x80, 0xFE, 0xFF} {
						ahead := byte(0)
						if first == 0xFF {
							ahead = 0xFF
						}
						b := bytes256(w, first, fill)
						for i := 1; i < at; i++ {
							b[i] = ahead
						}
						b[at] = c
						want, wantErr := readWanted(b)
						if n, e := numf.Get(b); n != want || e != wantErr {
							t.Errorf("Get(%v) = %d, %d, not %d, %d", b, n, e, want, wantErr)
						}
					}
				}
			}
		}
	}
}

func TestGetOfNoWidth(t *testing.T) { // P1.2: ErrArg stands ahead of ErrForm and ErrBig
	for n := 0; n <= 600; n++ {
		if n == 8 || n == 12 {
			continue
		}
		for _, c := range []byte{0, ' ', '1', 'x', 0x80, 0xFF} {
			b := bytes.Repeat([]byte{c}, n)
			if n, e := numf.Get(b); n != 0 || e != api.ErrArg {
				t.Errorf("Get(%v) = %d, %d, not ErrArg", b, n, e)
			}
			if numf.Exact(b) {
				t.Errorf("Exact(%v) of no width", b)
			}
		}
	}
	if n, e := numf.Get(nil); n != 0 || e != api.ErrArg || numf.Exact(nil) {
		t.Errorf("Get(nil) = %d, %d", n, e)
	}
}

func TestExact(t *testing.T) { // P1.2
	for _, f := range []string{
		"0000010\x00", "0000000\x00", "7777777\x00", "00000000000\x00", "77777777777\x00",
		"\x80\x00\x00\x00\x00\x20\x00\x00", "\x80\xff\xff\xff\xff\xff\xff\xff", "\xff\xff\xff\xff\xff\xff\xff\xff",
		"\xff\x00\x00\x00\x00\x00\x00\x00", "\x80\x00\x00\x00\x00\x00\x00\x02\x00\x00\x00\x00",
	} {
		if !numf.Exact([]byte(f)) {
			t.Errorf("Exact(%q): it is as it is laid", f)
		}
	}
	for _, f := range []string{
		"0000010 ", "     10\x00", "00000010", "10\x00\x00\x00\x00\x00\x00", "77777777", "777777777777", "000010\x00\x00",
		"00000000010 ", "\x80\x00\x00\x00\x00\x00\x00\x08", "\x80\x00\x00\x00\x00\x1f\xff\xff", "\x80\x00\x00\x00\x00\x00\x00\x00",
		"\x80\x00\x00\x00\x00\x00\x00\x01\xff\xff\xff\xff",
	} {
		if _, e := numf.Get([]byte(f)); e != api.OK || numf.Exact([]byte(f)) {
			t.Errorf("Exact(%q): it is a field (%d), and is laid another way", f, e)
		}
	}
}

func TestLaidIsReadAndExact(t *testing.T) { // P1.3
	for _, w := range widths {
		l := edges()
		for n := int64(-5000); n <= 5000; n++ {
			l = append(l, n, n*104729, n*1299709*15485863)
		}
		for _, n := range l {
			b, e := numf.Put(n, w)
			if e != api.OK {
				if w == 12 || n >= -1<<56 && n < 1<<56 {
					t.Errorf("Put(%d, %d): %d", n, w, e)
				}
				continue
			}
			if got, e := numf.Get(b); got != n || e != api.OK {
				t.Errorf("Get(Put(%d, %d)) = %d, %d", n, w, got, e)
			}
			if !numf.Exact(b) {
				t.Errorf("Exact(Put(%d, %d)) = false", n, w)
			}
			if numf.Plain(n, w) != (b[0] < 0x80) {
				t.Errorf("Plain(%d, %d) is not as it is laid: %v", n, w, b)
			}
		}
	}
}

func TestNothingIsWrittenOrShared(t *testing.T) { // R3, R4
	for _, f := range []string{"  644\x00 \x00", "0000010\x00", "\x80\x00\x00\x00\x00\x20\x00\x00", "00000x0\x00", "short"} {
		b := []byte(f)
		numf.Get(b)
		numf.Exact(b)
		if string(b) != f {
			t.Errorf("%q was turned to %q", f, b)
		}
	}
	for _, n := range []int64{8, -1, 1 << 40} {
		a, _ := numf.Put(n, 8)
		b, _ := numf.Put(n, 8)
		kept := slices.Clone(b)
		clear(a)
		if !bytes.Equal(b, kept) {
			t.Errorf("two answers of Put(%d, 8) share their bytes", n)
		}
	}
}
