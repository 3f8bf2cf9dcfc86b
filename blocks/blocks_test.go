package blocks_test

import (
	"archive/tar"
	"bytes"
	"io"
	"math"
	"math/big"
	"testing"

	"thwart/api"
	"thwart/blocks"
)

// edges are numbers of bytes about whole blocks.
var edges = []int{0, 1, 2, 255, 256, 510, 511, 512, 513, 514, 1023, 1024, 1025, 1535, 1536, 1537, 4095, 4096, 4097}

// great are numbers that no list has.
var great = []int64{
	1<<31 - 1, 1 << 31, 1<<32 - 1, 1 << 32, 1<<32 + 1, 1<<40 - 1, 1 << 40, 1 << 53, 1<<53 + 1, 1<<62 - 1, 1 << 62, 1<<62 + 1,
	math.MaxInt64 - 1024, math.MaxInt64 - 513, math.MaxInt64 - 512, math.MaxInt64 - 511, math.MaxInt64 - 510, math.MaxInt64 - 1, math.MaxInt64,
}

// below are numbers below 0.
var below = []int64{-1, -2, -511, -512, -513, -1024, -1 << 31, -1 << 32, -1 << 62, math.MinInt64 + 512, math.MinInt64 + 1, math.MinInt64}

// text is so many bytes, of which none is 0.
func text(n int) []byte {
	b := make([]byte, n)
	for i := range b {
		b[i] = byte(i%255) + 1
	}
	return b
}

// noughts are so many bytes 0.
func noughts(n int) []byte {
	return bytes.Repeat([]byte{0}, n)
}

// countWanted counts by the chapter's words: block for block, up to the first
// number of them that has room for n bytes.
func countWanted(n int) int {
	count := 0
	for room := 0; room < n; room += 512 {
		count++
	}
	return count
}

// filledWanted fills up by the chapter's words: a byte 0 at a time.
func filledWanted(b []byte) []byte {
	filled := append([]byte{}, b...)
	for len(filled)%512 != 0 {
		filled = append(filled, 0)
	}
	return filled
}

func TestCountAndPad(t *testing.T) { // P7.1
	for _, c := range []struct {
		n, count int64
		pad      int
	}{
		{0, 0, 0}, {1, 1, 511}, {2, 1, 510}, {511, 1, 1}, {512, 1, 0}, {513, 2, 511}, {1023, 2, 1}, {1024, 2, 0}, {1025, 3, 511}, {4096, 8, 0},
		{1 << 31, 1 << 22, 0}, {1<<31 - 1, 1 << 22, 1}, {1<<31 + 1, 1<<22 + 1, 511}, {1<<33 + 1, 1<<24 + 1, 511}, {1 << 62, 1 << 53, 0},
		{math.MaxInt64, 1 << 54, 1}, {math.MaxInt64 - 510, 1 << 54, 511}, {math.MaxInt64 - 511, 1<<54 - 1, 0}, {math.MaxInt64 - 512, 1<<54 - 1, 1},
	} {
		if n := blocks.Count(c.n); n != c.count {
			t.Errorf("Count(%d) = %d, not %d", c.n, n, c.count)
		}
		if n := blocks.Pad(c.n); n != c.pad {
			t.Errorf("Pad(%d) = %d, not %d", c.n, n, c.pad)
		}
	}
	for n := range 5000 {
		want := countWanted(n)
		if got := blocks.Count(int64(n)); got != int64(want) {
			t.Errorf("Count(%d) = %d, not %d", n, got, want)
		}
		if got := blocks.Pad(int64(n)); got != 512*want-n {
			t.Errorf("Pad(%d) = %d, not %d", n, got, 512*want-n)
		}
	}
}

// TestCountAndPadOfGreatNumbers counts in numbers that have no greatest one.
func TestCountAndPadOfGreatNumbers(t *testing.T) { // P7.1
	for _, n := range great {
		count, over := new(big.Int).DivMod(big.NewInt(n), big.NewInt(512), new(big.Int))
		pad := int64(0)
		if over.Sign() != 0 {
			count.Add(count, big.NewInt(1))
			pad = 512 - over.Int64()
		}
		if got := blocks.Count(n); got != count.Int64() {
			t.Errorf("Count(%d) = %d, not %d", n, got, count)
		}
		if got := blocks.Pad(n); int64(got) != pad {
			t.Errorf("Pad(%d) = %d, not %d", n, got, pad)
		}
	}
}

func TestCountAndPadBelow1(t *testing.T) { // P7.1
	for _, n := range append([]int64{0}, below...) {
		if got := blocks.Count(n); got != 0 {
			t.Errorf("Count(%d) = %d, not 0", n, got)
		}
		if got := blocks.Pad(n); got != 0 {
			t.Errorf("Pad(%d) = %d, not 0", n, got)
		}
	}
}

func TestFill(t *testing.T) { // P7.1
	for _, b := range [][]byte{nil, {}} {
		if got := blocks.Fill(b); len(got) != 0 {
			t.Errorf("Fill of nothing = %v", got)
		}
	}
	if got, want := blocks.Fill([]byte("ab")), append([]byte("ab"), noughts(510)...); !bytes.Equal(got, want) {
		t.Errorf("Fill of two bytes = %q", got)
	}
	for n := range 1600 {
		for _, b := range [][]byte{text(n), noughts(n), bytes.Repeat([]byte{255}, n)} {
			if got, want := blocks.Fill(b), filledWanted(b); !bytes.Equal(got, want) {
				t.Errorf("Fill of %d bytes: %d bytes, not %d", n, len(got), len(want))
			}
		}
	}
}

// TestFillWithRoomBehind fills up bytes behind which their list goes on: what
// stands there is not taken for what fills up, nor written over.
func TestFillWithRoomBehind(t *testing.T) { // P7.1, R4
	for _, n := range edges {
		wide := text(n + 2000)
		kept := bytes.Clone(wide)
		if got, want := blocks.Fill(wide[:n]), filledWanted(kept[:n]); !bytes.Equal(got, want) {
			t.Errorf("Fill of the first %d bytes of a list is another one", n)
		}
		if !bytes.Equal(wide, kept) {
			t.Errorf("Fill of the first %d bytes of a list turned it", n)
		}
	}
}

func TestEnd(t *testing.T) { // P7.1
	if got := blocks.End(); !bytes.Equal(got, noughts(1024)) {
		t.Errorf("End = %d bytes: %v", len(got), got)
	}
}

func TestCut(t *testing.T) { // P7.1
	for _, b := range [][]byte{nil, {}} {
		if l, e := blocks.Cut(b); len(l) != 0 || e != api.OK {
			t.Errorf("Cut of nothing = %v, %d", l, e)
		}
	}
	for count := range 20 {
		b := text(512 * count)
		l, e := blocks.Cut(b)
		if e != api.OK || len(l) != count {
			t.Errorf("Cut of %d blocks = %d of them, %d", count, len(l), e)
		}
		for i, block := range l {
			if !bytes.Equal(block, b[512*i:512*i+512]) {
				t.Errorf("Cut of %d blocks: block %d is %v", count, i, block)
			}
		}
	}
	if l, e := blocks.Cut(blocks.End()); len(l) != 2 || !bytes.Equal(bytes.Join(l, nil), noughts(1024)) || e != api.OK {
		t.Errorf("Cut of End = %v, %d", l, e)
	}
}

func TestCutOfNoWholeBlocks(t *testing.T) { // P7.1
	for n := range 2100 {
		if n%512 == 0 {
			continue
		}
		for _, b := range [][]byte{text(n), noughts(n), text(n + 2048)[:n]} {
			if l, e := blocks.Cut(b); l != nil || e != api.ErrEnd {
				t.Errorf("Cut of %d bytes = %d blocks, %d, not ErrEnd", n, len(l), e)
			}
		}
	}
}

// openWanted opens by the chapter's words.
func openWanted(b []byte, size int) ([]byte, api.Errno) {
	switch {
	case size < 0:
		return nil, api.ErrArg
	case len(b) < 512*countWanted(size):
		return nil, api.ErrEnd
	}
	return b[:size], api.OK
}

// cleanWanted tells by the chapter's words whether bytes begin by so many ones
// that are filled up.
func cleanWanted(b []byte, size int) bool {
	opened, e := openWanted(b, size)
	return e == api.OK && bytes.HasPrefix(b, filledWanted(opened))
}

func TestOpenAndClean(t *testing.T) { // P7.2
	for _, c := range []struct {
		b     []byte
		size  int64
		want  []byte
		e     api.Errno
		clean bool
	}{
		{nil, 0, nil, api.OK, true},
		{[]byte{}, 0, nil, api.OK, true},
		{nil, 1, nil, api.ErrEnd, false},
		{nil, -1, nil, api.ErrArg, false},
		{text(1), 0, nil, api.OK, true},
		{text(512), 0, nil, api.OK, true},
		// The bytes are there, but what fills them up is not.
		{text(1), 1, nil, api.ErrEnd, false},
		{filledWanted(text(2))[:511], 2, nil, api.ErrEnd, false},
		{filledWanted(text(513))[:1023], 513, nil, api.ErrEnd, false},
		{filledWanted(text(2)), 2, text(2), api.OK, true},
		{filledWanted(text(2)), 3, append(text(2), 0), api.OK, true},
		{filledWanted(text(2)), 1, text(1), api.OK, false},
		{filledWanted(text(2)), 512, filledWanted(text(2)), api.OK, true},
		{filledWanted(text(2)), 513, nil, api.ErrEnd, false},
		{text(512), 512, text(512), api.OK, true},
		{text(512), 511, text(511), api.OK, false},
		{text(1024), 512, text(512), api.OK, true},
		{text(1023), 512, text(512), api.OK, true},
		{text(1023), 513, nil, api.ErrEnd, false},
		{text(1024), 513, text(513), api.OK, false},
		// What stands behind the blocks plays no part, be it whole blocks or not.
		{append(filledWanted(text(513)), text(7)...), 513, text(513), api.OK, true},
		{append(filledWanted(text(513)), text(512)...), 513, text(513), api.OK, true},
	} {
		if b, e := blocks.Open(c.b, c.size); !bytes.Equal(b, c.want) || e != c.e {
			t.Errorf("Open of %d bytes, size %d = %d bytes, %d, not %d, %d", len(c.b), c.size, len(b), e, len(c.want), c.e)
		}
		if got := blocks.Clean(c.b, c.size); got != c.clean {
			t.Errorf("Clean of %d bytes, size %d = %v", len(c.b), c.size, got)
		}
	}
}

// TestOpenAndCleanOfEachSize opens lists about each number of blocks at each
// size.
func TestOpenAndCleanOfEachSize(t *testing.T) { // P7.2
	for _, n := range edges {
		if n > 1600 {
			continue
		}
		for _, b := range [][]byte{text(n), noughts(n), append(text(n/2), noughts(n-n/2)...)} {
			for size := -3; size < n+600; size++ {
				want, wantE := openWanted(b, size)
				if got, e := blocks.Open(b, int64(size)); !bytes.Equal(got, want) || e != wantE {
					t.Errorf("Open of %d bytes, size %d = %d bytes, %d, not %d, %d", n, size, len(got), e, len(want), wantE)
				}
				if got := blocks.Clean(b, int64(size)); got != cleanWanted(b, size) {
					t.Errorf("Clean of %d bytes, size %d = %v", n, size, got)
				}
			}
		}
	}
}

// TestSizesThatNoListHas opens at sizes below 0, ErrArg also of too few bytes,
// and at such as no list has, up to the greatest number.
func TestSizesThatNoListHas(t *testing.T) { // P7.2
	for _, n := range edges {
		for _, b := range [][]byte{text(n), noughts(n)} {
			for _, size := range below {
				if got, e := blocks.Open(b, size); got != nil || e != api.ErrArg {
					t.Errorf("Open of %d bytes, size %d = %v, %d, not ErrArg", n, size, got, e)
				}
				if blocks.Clean(b, size) {
					t.Errorf("Clean of %d bytes, size %d", n, size)
				}
			}
			for _, size := range great {
				if got, e := blocks.Open(b, size); got != nil || e != api.ErrEnd {
					t.Errorf("Open of %d bytes, size %d = %v, %d, not ErrEnd", n, size, got, e)
				}
				if blocks.Clean(b, size) {
					t.Errorf("Clean of %d bytes, size %d", n, size)
				}
			}
		}
	}
}

// TestCleanWithOneByte puts a byte in each place: only those that fill up are
// told.
func TestCleanWithOneByte(t *testing.T) { // P7.2
	for _, size := range []int{0, 1, 2, 256, 511, 512, 513, 1000, 1023, 1024} {
		for _, c := range []byte{1, ' ', '0', 127, 128, 255} {
			for at := range 1600 {
				b := noughts(1600)
				b[at] = c
				want := at < size || at >= 512*countWanted(size)
				if got := blocks.Clean(b, int64(size)); got != want {
					t.Errorf("Clean of size %d with %d at %d = %v", size, c, at, got)
				}
				if got, e := blocks.Open(b, int64(size)); !bytes.Equal(got, b[:size]) || e != api.OK {
					t.Errorf("Open of size %d with %d at %d = %v, %d", size, c, at, got, e)
				}
			}
		}
	}
}

func TestFilledIsOpened(t *testing.T) { // P7.3
	for n := range 1600 {
		for _, b := range [][]byte{text(n), noughts(n), bytes.Repeat([]byte{255}, n)} {
			filled := blocks.Fill(b)
			if opened, e := blocks.Open(filled, int64(n)); !bytes.Equal(opened, b) || e != api.OK {
				t.Errorf("Open of %d bytes that were filled up = %d bytes, %d", n, len(opened), e)
			}
			if !blocks.Clean(filled, int64(n)) {
				t.Errorf("%d bytes that were filled up are not Clean", n)
			}
			l, e := blocks.Cut(filled)
			if int64(len(l)) != blocks.Count(int64(n)) || !bytes.Equal(bytes.Join(l, nil), filled) || e != api.OK {
				t.Errorf("Cut of %d bytes that were filled up = %d blocks, %d", n, len(l), e)
			}
			if len(filled) != n+blocks.Pad(int64(n)) || !bytes.Equal(blocks.Fill(filled), filled) {
				t.Errorf("%d bytes, filled up, are %d, or are filled up once more", n, len(filled))
			}
		}
	}
}

// TestArchiveOfTheLibrary lays a file's bytes by another hand: between their
// header and the end they are filled up.
func TestArchiveOfTheLibrary(t *testing.T) { // P7.1, P7.3
	for _, n := range edges {
		var laid bytes.Buffer
		w := tar.NewWriter(&laid)
		if err := w.WriteHeader(&tar.Header{Name: "a", Mode: 0o644, Size: int64(n), Format: tar.FormatUSTAR}); err != nil {
			t.Fatal(err)
		}
		if _, err := w.Write(text(n)); err != nil {
			t.Fatal(err)
		}
		if err := w.Close(); err != nil {
			t.Fatal(err)
		}
		want, _ := io.ReadAll(&laid)
		if got := append(blocks.Fill(text(n)), blocks.End()...); !bytes.Equal(got, want[512:]) {
			t.Errorf("%d bytes and the end are laid in %d bytes, not in %d", n, len(got), len(want)-512)
		}
	}
}

func TestNothingIsWrittenOrShared(t *testing.T) { // R3, R4
	for _, n := range edges {
		b := text(n + 1000)[:n]
		whole := b[:n+1000]
		kept := bytes.Clone(whole)
		size := int64(n / 512 * 512)
		filled := blocks.Fill(b)
		opened, _ := blocks.Open(b, size)
		l, _ := blocks.Cut(b)
		blocks.Clean(b, size)
		if !bytes.Equal(whole, kept) {
			t.Errorf("%d bytes were turned", n)
		}
		clear(whole)
		if !bytes.Equal(filled, filledWanted(kept[:n])) || !bytes.Equal(opened, kept[:size]) {
			t.Errorf("answers of %d bytes hang on what is written into these afterwards", n)
		}
		for i := range l {
			if !bytes.Equal(l[i], kept[512*i:512*i+512]) {
				t.Errorf("block %d of %d bytes hangs on what is written into these, or into another block", i, n)
			}
			clear(l[i])
			_ = append(l[i], 7)
		}
		if !bytes.Equal(whole, noughts(n+1000)) {
			t.Errorf("what is written into the blocks of %d bytes is written into these", n)
		}
	}
	end := blocks.End()
	end[0], end[1023] = 1, 1
	if !bytes.Equal(blocks.End(), noughts(1024)) {
		t.Error("two answers of End share their bytes")
	}
}
