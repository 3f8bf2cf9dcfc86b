package hsum_test

import (
	"bytes"
	"fmt"
	"strings"
	"testing"

	"thwart/api"
	"thwart/hsum"
	"thwart/numf"
)

// noLengths are numbers of bytes that are no block's.
var noLengths = []int{0, 1, 8, 12, 147, 148, 155, 156, 157, 256, 510, 511, 513, 514, 1023, 1024, 1536}

// filled is a block of one byte.
func filled(c byte) []byte {
	return bytes.Repeat([]byte{c}, 512)
}

// told is a block of noughts but for the eight bytes of its sum.
func told(field string) []byte {
	b := filled(0)
	copy(b[148:156], field)
	return b
}

// blocks are some with all bytes, and with some of their sum's.
func blocks() [][]byte {
	l := [][]byte{filled(0), filled(1), filled(' '), filled('0'), filled('7'), filled(127), filled(128), filled(255)}
	for step := range 40 {
		b := make([]byte, 512)
		for i := range b {
			b[i] = byte(i*(2*step+1) + step*step + i*i/(step+1))
		}
		l = append(l, b)
	}
	for _, at := range []int{0, 1, 147, 148, 149, 154, 155, 156, 157, 256, 510, 511} {
		b := filled(0)
		b[at] = 200
		l = append(l, b)
	}
	return l
}

// sumWanted adds by the chapter's words: all bytes, the eight as blanks.
func sumWanted(b []byte) int {
	c := append(append(append([]byte{}, b[:148]...), "        "...), b[156:]...)
	sum := 0
	for _, x := range c {
		sum += int(x)
	}
	return sum
}

func TestSum(t *testing.T) { // P3.1
	for _, c := range []struct {
		b    []byte
		want int
	}{
		{filled(0), 256},
		{filled(1), 504 + 256},
		{filled(' '), 512 * 32},
		{filled(128), 504*128 + 256},
		{filled(255), 504*255 + 256},
		{told("\xff\xff\xff\xff\xff\xff\xff\xff"), 256},
		{told("0000000\x00"), 256},
	} {
		if n, e := hsum.Sum(c.b); n != c.want || e != api.OK {
			t.Errorf("Sum(%v) = %d, %d, not %d", c.b, n, e, c.want)
		}
	}
	for _, b := range blocks() {
		if n, e := hsum.Sum(b); n != sumWanted(b) || e != api.OK {
			t.Errorf("Sum(%v) = %d, %d, not %d", b, n, e, sumWanted(b))
		}
	}
}

// TestSumOfEachPlace puts one byte in each place: but for the eight it counts
// as what it is.
func TestSumOfEachPlace(t *testing.T) { // P3.1
	for at := range 512 {
		for _, c := range []byte{1, 32, 127, 128, 255} {
			b := filled(0)
			b[at] = c
			want := 256 + int(c)
			if at >= 148 && at <= 155 {
				want = 256
			}
			if n, e := hsum.Sum(b); n != want || e != api.OK {
				t.Errorf("Sum of %d at %d = %d, %d, not %d", c, at, n, e, want)
			}
		}
	}
}

func TestPut(t *testing.T) { // P3.1
	for _, c := range []struct {
		b    []byte
		want string
	}{
		{filled(0), "000400\x00 "},
		{filled(1), "001370\x00 "},
		{filled(' '), "040000\x00 "},
		{filled(255), "373410\x00 "},
		{told("\xffanother"), "000400\x00 "},
	} {
		b, e := hsum.Put(c.b)
		if e != api.OK || len(b) != 512 || string(b[148:156]) != c.want {
			t.Errorf("Put(%v) = %v, %d, not with %q", c.b, b, e, c.want)
		}
	}
	for _, b := range blocks() {
		want := bytes.Clone(b)
		copy(want[148:], fmt.Sprintf("%06o\x00 ", sumWanted(b)))
		if laid, e := hsum.Put(b); !bytes.Equal(laid, want) || e != api.OK {
			t.Errorf("Put(%v) = %v, %d, not %v", b, laid, e, want)
		}
	}
}

func TestZero(t *testing.T) { // P3.1
	if !hsum.Zero(filled(0)) {
		t.Error("512 noughts are not Zero")
	}
	for at := range 512 {
		for _, c := range []byte{1, '0', ' ', 128, 255} {
			b := filled(0)
			b[at] = c
			if hsum.Zero(b) {
				t.Errorf("Zero with %d at %d", c, at)
			}
		}
	}
	for _, b := range [][]byte{filled(1), filled('0'), filled(255)} {
		if hsum.Zero(b) {
			t.Errorf("Zero(%v)", b)
		}
	}
}

func TestNoBlock(t *testing.T) { // P3.1, P3.2: ErrArg stands ahead of what the eight bytes tell
	l := [][]byte{nil, {}}
	for _, n := range noLengths {
		for _, c := range []byte{0, ' ', '1', 'x', 0x80, 0xFF} {
			l = append(l, bytes.Repeat([]byte{c}, n))
		}
	}
	laid, _ := hsum.Put(filled(3))
	l = append(l, laid[:511], append(bytes.Clone(laid), 0))
	for _, b := range l {
		if n, e := hsum.Sum(b); n != 0 || e != api.ErrArg {
			t.Errorf("Sum of %d bytes = %d, %d", len(b), n, e)
		}
		if p, e := hsum.Put(b); p != nil || e != api.ErrArg {
			t.Errorf("Put of %d bytes = %v, %d", len(b), p, e)
		}
		if n, e := hsum.Told(b); n != 0 || e != api.ErrArg {
			t.Errorf("Told of %d bytes = %d, %d", len(b), n, e)
		}
		if e := hsum.Check(b); e != api.ErrArg {
			t.Errorf("Check of %d bytes = %d", len(b), e)
		}
		if hsum.Zero(b) {
			t.Errorf("Zero of %d bytes", len(b))
		}
	}
}

func TestTold(t *testing.T) { // P3.2
	for _, c := range []struct {
		field string
		want  int
		e     api.Errno
	}{
		{"000400\x00 ", 256, api.OK},
		{"0000000\x00", 0, api.OK},
		{"0       ", 0, api.OK},
		{"   400 \x00", 256, api.OK},
		{"00000400", 256, api.OK},
		{"       7", 7, api.OK},
		{"373410\x00 ", 504*255 + 256, api.OK},
		{"\x80\x00\x00\x00\x00\x00\x01\x00", 256, api.OK},
		{"\x80\x00\x00\x00\x00\x00\x00\x00", 0, api.OK},
		// 2^20 is told; one above it is not.
		{"3777777\x00", 1<<20 - 1, api.OK},
		{"4000000\x00", 1 << 20, api.OK},
		{"04000000", 1 << 20, api.OK},
		{"4000001\x00", 0, api.ErrForm},
		{"7777777\x00", 0, api.ErrForm},
		{"77777777", 0, api.ErrForm},
		{"\x80\x00\x00\x00\x00\x10\x00\x00", 1 << 20, api.OK},
		{"\x80\x00\x00\x00\x00\x10\x00\x01", 0, api.ErrForm},
		{"\x80\x00\x00\x01\x00\x00\x01\x00", 0, api.ErrForm},
		{"\x80\xff\xff\xff\xff\xff\xff\xff", 0, api.ErrForm},
		// Below 0.
		{"\xff\xff\xff\xff\xff\xff\xff\xff", 0, api.ErrForm},
		{"\xff\xff\xff\xff\xff\xff\xff\x00", 0, api.ErrForm},
		{"\xff\x00\x00\x00\x00\x00\x00\x00", 0, api.ErrForm},
		// No field.
		{"\x00\x00\x00\x00\x00\x00\x00\x00", 0, api.ErrForm},
		{"        ", 0, api.ErrForm},
		{"\x00000400 ", 0, api.ErrForm},
		{"000408\x00 ", 0, api.ErrForm},
		{"-00400\x00 ", 0, api.ErrForm},
		{"000 00\x00 ", 0, api.ErrForm},
		{"000400\x00x", 0, api.ErrForm},
		{"\x81\x00\x00\x00\x00\x00\x01\x00", 0, api.ErrForm},
	} {
		if n, e := hsum.Told(told(c.field)); n != c.want || e != c.e {
			t.Errorf("Told of %q = %d, %d, not %d, %d", c.field, n, e, c.want, c.e)
		}
		want := c.e
		if want == api.OK && c.want != 256 {
			want = api.ErrSum
		}
		if e := hsum.Check(told(c.field)); e != want {
			t.Errorf("Check of %q = %d, not %d", c.field, e, want)
		}
	}
}

// TestToldHangsOnTheEightBytesAlone turns all others.
func TestToldHangsOnTheEightBytesAlone(t *testing.T) { // P3.2
	for at := range 512 {
		if at >= 148 && at <= 155 {
			continue
		}
		b := told("001234\x00 ")
		b[at] = 255
		if n, e := hsum.Told(b); n != 0o1234 || e != api.OK {
			t.Errorf("Told with another byte at %d = %d, %d", at, n, e)
		}
	}
}

// TestToldOfEachByte puts each byte in each of the eight places: what is told
// is what layer 1 reads, within its bounds.
func TestToldOfEachByte(t *testing.T) { // P3.2
	for _, field := range []string{"000400\x00 ", "       1", "7\x00\x00\x00\x00\x00\x00\x00", "\x80\x00\x00\x00\x00\x01\x00\x00", "\xff\xff\xff\xff\xff\xff\xff\xff"} {
		for at := range 8 {
			for c := range 256 {
				f := []byte(field)
				f[at] = byte(c)
				n, want := numf.Get(f)
				if want == api.OK && (n < 0 || n > 1<<20) {
					n, want = 0, api.ErrForm
				}
				b := told(string(f))
				if got, e := hsum.Told(b); int64(got) != n || e != want {
					t.Errorf("Told of %q = %d, %d, not %d, %d", f, got, e, n, want)
				}
				if want == api.OK && n != 256 {
					want = api.ErrSum
				}
				if e := hsum.Check(b); e != want {
					t.Errorf("Check of %q = %d, not %d", f, e, want)
				}
			}
		}
	}
}

func TestCheck(t *testing.T) { // P3.2: a sum that is laid another way is a sum, too
	for _, field := range []string{"000400\x00 ", "000400 \x00", "0000400\x00", "00000400", "400     ", "     400", "  400\x00\x00\x00", "\x80\x00\x00\x00\x00\x00\x01\x00"} {
		if e := hsum.Check(told(field)); e != api.OK {
			t.Errorf("Check of %q = %d", field, e)
		}
	}
	for _, field := range []string{"000401\x00 ", "000377\x00 ", "000000\x00 ", "373410\x00 ", "4000000\x00", "\x80\x00\x00\x00\x00\x00\x01\x01"} {
		if e := hsum.Check(told(field)); e != api.ErrSum {
			t.Errorf("Check of %q = %d, not ErrSum", field, e)
		}
	}
	if e := hsum.Check(filled(0)); e != api.ErrForm {
		t.Errorf("Check of noughts = %d, not ErrForm", e)
	}
	if e := hsum.Check(filled(' ')); e != api.ErrForm {
		t.Errorf("Check of blanks = %d, not ErrForm", e)
	}
	if e := hsum.Check(filled(0xFF)); e != api.ErrForm {
		t.Errorf("Check of bytes 255 = %d, not ErrForm", e)
	}
}

func TestLaidIsChecked(t *testing.T) { // P3.3
	for _, b := range blocks() {
		laid, e := hsum.Put(b)
		if e != api.OK {
			t.Errorf("Put(%v): %d", b, e)
			continue
		}
		if e := hsum.Check(laid); e != api.OK {
			t.Errorf("Check(Put(%v)) = %d", b, e)
		}
		if n, e := hsum.Told(laid); n != sumWanted(b) || e != api.OK {
			t.Errorf("Told(Put(%v)) = %d, %d", b, n, e)
		}
		again, _ := hsum.Put(laid)
		if !bytes.Equal(again, laid) {
			t.Errorf("Put(Put(%v)) is another one", b)
		}
	}
}

func TestAnotherByteIsFound(t *testing.T) { // P3.3
	for _, b := range blocks() {
		laid, _ := hsum.Put(b)
		for at := range 512 {
			if at >= 148 && at <= 155 {
				continue
			}
			for _, turn := range []byte{1, 2, 0x80, 0x81, 0xFF} {
				laid[at] ^= turn
				if e := hsum.Check(laid); e != api.ErrSum {
					t.Errorf("a byte turned by %d at %d is not found: %d", turn, at, e)
				}
				laid[at] ^= turn
			}
		}
	}
}

func TestNothingIsWrittenOrShared(t *testing.T) { // R3, R4
	for _, b := range [][]byte{filled(7), told("000400\x00 "), told("x"), []byte(strings.Repeat("short", 9))} {
		kept := bytes.Clone(b)
		hsum.Sum(b)
		hsum.Check(b)
		hsum.Told(b)
		hsum.Zero(b)
		laid, _ := hsum.Put(b)
		again, _ := hsum.Put(b)
		if !bytes.Equal(b, kept) {
			t.Errorf("%v was turned to %v", kept, b)
		}
		want := bytes.Clone(laid)
		clear(b)
		if !bytes.Equal(laid, want) {
			t.Errorf("Put(%v) hangs on what is written into it afterwards", kept)
		}
		clear(laid)
		if !bytes.Equal(again, want) {
			t.Errorf("two answers of Put(%v) share their bytes", kept)
		}
	}
	// Room behind the bytes of an argument is not written to, either.
	wide := bytes.Repeat([]byte{9}, 600)
	if laid, e := hsum.Put(wide[:512]); e != api.OK || len(laid) != 512 || !bytes.Equal(wide, bytes.Repeat([]byte{9}, 600)) {
		t.Errorf("Put of a part of a list: %d, %v", e, wide)
	}
}
