package strf_test

import (
	"bytes"
	"math"
	"slices"
	"strings"
	"testing"

	"thwart/api"
	"thwart/strf"
)

// noWidths are numbers that are no width of a text.
var noWidths = []int{math.MinInt, -512, -1, 0, 513, 514, 1024, math.MaxInt}

// of is a text of n signs that are no `/`.
func of(n int) string {
	return strings.Repeat("n", n)
}

// texts are some without a byte 0, of all lengths that are an edge.
func texts() []string {
	l := []string{"", "a", "ab", "a/b", "/", " ", "\n", "\xff\xfe", "a\x01", "\u00e4\u6f22", "0", "\x80"}
	for _, n := range []int{7, 8, 99, 100, 101, 154, 155, 156, 511, 512} {
		l = append(l, of(n), strings.Repeat("\xff", n))
	}
	return l
}

// paths are some with each place of a first and of a second `/`, around all
// lengths that are an edge.
func paths() []string {
	l := []string{strings.Repeat("/", 256), strings.Repeat("ab/", 85), strings.Repeat("/", 101)}
	for _, n := range []int{1, 2, 99, 100, 101, 102, 103, 154, 155, 156, 157, 200, 201, 254, 255, 256, 257, 258, 300} {
		l = append(l, of(n), strings.Repeat("/", n))
		for first := 0; first < n; first++ {
			b := []byte(of(n))
			b[first] = '/'
			l = append(l, string(b))
			for _, second := range []int{first + 1, 100, 101, 154, 155, 156, n - 102, n - 101, n - 100, n - 2, n - 1} {
				if second > first && second < n {
					c := slices.Clone(b)
					c[second] = '/'
					l = append(l, string(c))
				}
			}
		}
	}
	return l
}

// splitWanted parts a path by the chapter's words: all cuts at a `/` in their
// order, each with what it leaves.
func splitWanted(path string) (string, string, bool) {
	if len(path) >= 1 && len(path) <= 100 {
		return "", path, true
	}
	parts := strings.Split(path, "/")
	for i := 1; i < len(parts); i++ {
		prefix, name := strings.Join(parts[:i], "/"), strings.Join(parts[i:], "/")
		if len(name) >= 1 && len(name) <= 100 && len(prefix) >= 1 && len(prefix) <= 155 {
			return prefix, name, true
		}
	}
	return "", "", false
}

func TestPut(t *testing.T) { // P2.1
	for _, c := range []struct {
		s     string
		width int
		want  []byte
	}{
		{"ab", 4, []byte{97, 98, 0, 0}},
		{"", 1, []byte{0}},
		{"", 512, make([]byte, 512)},
		{"a", 1, []byte{'a'}},
		{"ab", 2, []byte{'a', 'b'}},
		{"ab", 3, []byte{'a', 'b', 0}},
		{"\xff\x01 ", 4, []byte{0xFF, 1, ' ', 0}},
		{"\u00e4", 2, []byte{0xC3, 0xA4}},
		{of(512), 512, []byte(of(512))},
		{of(511), 512, append([]byte(of(511)), 0)},
		{of(100), 100, []byte(of(100))},
	} {
		if b, e := strf.Put(c.s, c.width); !bytes.Equal(b, c.want) || e != api.OK {
			t.Errorf("Put(%q, %d) = %v, %d, not %v", c.s, c.width, b, e, c.want)
		}
	}
	for _, s := range texts() {
		for width := 1; width <= 512; width++ {
			b, e := strf.Put(s, width)
			if len(s) > width {
				if b != nil || e != api.ErrBig {
					t.Errorf("Put(%q, %d) = %v, %d, not ErrBig", s, width, b, e)
				}
			} else if string(b) != s+strings.Repeat("\x00", width-len(s)) || e != api.OK {
				t.Errorf("Put(%q, %d) = %v, %d", s, width, b, e)
			}
		}
	}
}

func TestPutOfNoWidth(t *testing.T) { // P2.1: ErrArg stands ahead of ErrForm and ErrBig
	for _, width := range noWidths {
		for _, s := range []string{"", "a", "a\x00b", "\x00", of(600), of(2000) + "\x00"} {
			if b, e := strf.Put(s, width); b != nil || e != api.ErrArg {
				t.Errorf("Put(%q, %d) = %v, %d, not ErrArg", s, width, b, e)
			}
		}
	}
}

func TestPutOfAByteNought(t *testing.T) { // P2.1: ErrForm stands ahead of ErrBig
	for _, s := range []string{"\x00", "\x00a", "a\x00", "a\x00b", "\x00\x00", of(511) + "\x00", of(512) + "\x00", "\x00" + of(512)} {
		for _, width := range []int{1, 2, 3, 100, 155, 511, 512} {
			if b, e := strf.Put(s, width); b != nil || e != api.ErrForm {
				t.Errorf("Put(%q, %d) = %v, %d, not ErrForm", s, width, b, e)
			}
		}
	}
}

func TestPutTooBig(t *testing.T) { // P2.1
	for _, c := range []struct {
		s     string
		width int
	}{
		{"ab", 1}, {"abc", 2}, {"\u00e4", 1}, {of(101), 100}, {of(512), 511}, {of(513), 512}, {of(1 << 20), 512},
	} {
		if b, e := strf.Put(c.s, c.width); b != nil || e != api.ErrBig {
			t.Errorf("Put(%d bytes, %d) = %v, %d, not ErrBig", len(c.s), c.width, b, e)
		}
	}
}

func TestGetAndLoose(t *testing.T) { // P2.1
	for _, c := range []struct {
		field, loose string
		e            api.Errno
	}{
		{"", "", api.OK},
		{"\x00", "", api.OK},
		{"\x00\x00\x00", "", api.OK},
		{"a", "a", api.OK},
		{"ab\x00\x00", "ab", api.OK},
		{"ab", "ab", api.OK},
		{"a b \x00", "a b ", api.OK},
		{"\xff\xfe\x00", "\xff\xfe", api.OK},
		{of(512), of(512), api.OK},
		{of(2000), of(2000), api.OK},
		{of(2000) + "\x00", of(2000), api.OK},
		{"a\x00b", "a", api.ErrForm},
		{"\x00b", "", api.ErrForm},
		{"\x00\x00b", "", api.ErrForm},
		{"ab\x00\x00\x00 ", "ab", api.ErrForm},
		{"ab\x00\x01\x00\x00", "ab", api.ErrForm},
		{"ab\x00\xff", "ab", api.ErrForm},
		{"ab\x00" + "0\x00", "ab", api.ErrForm},
		{of(511) + "\x00\x00" + of(1), of(511), api.ErrForm},
	} {
		if got := strf.Loose([]byte(c.field)); got != c.loose {
			t.Errorf("Loose(%q) = %q, not %q", c.field, got, c.loose)
		}
		want := c.loose
		if c.e != api.OK {
			want = ""
		}
		if got, e := strf.Get([]byte(c.field)); got != want || e != c.e {
			t.Errorf("Get(%q) = %q, %d, not %q, %d", c.field, got, e, want, c.e)
		}
	}
	if got, e := strf.Get(nil); got != "" || e != api.OK || strf.Loose(nil) != "" {
		t.Errorf("Get(nil) = %q, %d", got, e)
	}
}

// TestGetEachByte puts each byte in each place of some fields: only a 0 may
// stand behind a 0.
func TestGetEachByte(t *testing.T) { // P2.1
	for _, field := range []string{"abcdefgh", "abc\x00\x00\x00\x00\x00", "\x00\x00\x00", "abc\x00de\x00"} {
		for at := range field {
			for c := range 256 {
				b := []byte(field)
				b[at] = byte(c)
				loose, behind, _ := strings.Cut(string(b), "\x00")
				want, wantErr := loose, api.OK
				if strings.Trim(behind, "\x00") != "" {
					want, wantErr = "", api.ErrForm
				}
				if got := strf.Loose(b); got != loose {
					t.Errorf("Loose(%q) = %q, not %q", b, got, loose)
				}
				if got, e := strf.Get(b); got != want || e != wantErr {
					t.Errorf("Get(%q) = %q, %d, not %q, %d", b, got, e, want, wantErr)
				}
			}
		}
	}
}

func TestSplit(t *testing.T) { // P2.2
	for _, c := range []struct{ path, prefix, name string }{
		{"a", "", "a"},
		{"a/b", "", "a/b"},
		{"/", "", "/"},
		{"a/", "", "a/"},
		{"/a", "", "/a"},
		{of(100), "", of(100)},
		{of(50) + "/" + of(49), "", of(50) + "/" + of(49)},
		{of(50) + "/" + of(50), of(50), of(50)},
		// The greatest name, and the greatest prefix.
		{"a/" + of(100), "a", of(100)},
		{of(155) + "/" + of(100), of(155), of(100)},
		{of(155) + "/a", of(155), "a"},
		// The first place of several, that leaves not too much.
		{of(10) + "/" + of(20) + "/" + of(90), of(10) + "/" + of(20), of(90)},
		{of(10) + "/" + of(20) + "/" + of(80), of(10) + "/" + of(20), of(80)},
		{of(10) + "/" + of(20) + "/" + of(79), of(10), of(20) + "/" + of(79)},
		{"a/b/" + of(98), "a", "b/" + of(98)},
		{"a/b/" + of(99), "a/b", of(99)},
		{of(155) + "/" + of(50) + "/" + of(49), of(155), of(50) + "/" + of(49)},
		// A first byte that is a `/` has no prefix ahead of it: the next one counts.
		{"/" + of(50) + "/" + of(49), "/" + of(50), of(49)},
		{"//" + of(99), "/", of(99)},
		{strings.Repeat("/", 101), "/", strings.Repeat("/", 99)},
		{strings.Repeat("/", 256), strings.Repeat("/", 155), strings.Repeat("/", 100)},
		// A `/` at the end stays the name's.
		{of(100) + "/b/", of(100), "b/"},
		{"a/" + of(99) + "/", "a", of(99) + "/"},
		{"\xff\xfe/" + strings.Repeat("\xff", 100), "\xff\xfe", strings.Repeat("\xff", 100)},
	} {
		prefix, name, ok := strf.Split(c.path)
		if prefix != c.prefix || name != c.name || !ok {
			t.Errorf("Split(%q) = %q, %q, %t, not %q, %q", c.path, prefix, name, ok, c.prefix, c.name)
		}
		if !strf.Fits(c.path) {
			t.Errorf("Fits(%q) = false", c.path)
		}
	}
}

func TestSplitOfNone(t *testing.T) { // P2.2
	for _, path := range []string{
		"",
		of(101), of(255), of(300), of(1 << 20),
		"a/" + of(101),
		"/" + of(100), "/" + of(101),
		of(100) + "/", of(150) + "/", of(200) + "/",
		of(156) + "/a", of(156) + "/" + of(99), of(156) + "/" + of(100),
		of(155) + "/" + of(101),
		of(53) + "/" + of(101),
		of(50) + "/" + of(155) + "/" + of(49),
		strings.Repeat("/", 257),
		strings.Repeat("a/", 1<<19),
	} {
		if prefix, name, ok := strf.Split(path); prefix != "" || name != "" || ok {
			t.Errorf("Split(%d bytes) = %q, %q, %t", len(path), prefix, name, ok)
		}
		if strf.Fits(path) {
			t.Errorf("Fits(%d bytes) = true", len(path))
		}
	}
}

func TestSplitOfAll(t *testing.T) { // P2.2
	for _, path := range paths() {
		wantPrefix, wantName, want := splitWanted(path)
		if prefix, name, ok := strf.Split(path); prefix != wantPrefix || name != wantName || ok != want {
			t.Errorf("Split(%q) = %q, %q, %t, not %q, %q, %t", path, prefix, name, ok, wantPrefix, wantName, want)
		}
		if strf.Fits(path) != want {
			t.Errorf("Fits(%q) = %t", path, !want)
		}
	}
}

func TestJoin(t *testing.T) { // P2.2
	for _, c := range []struct{ prefix, name, want string }{
		{"", "", ""}, {"", "b", "b"}, {"", "/b", "/b"}, {"", "a/b", "a/b"}, {"", of(300), of(300)},
		{"a", "b", "a/b"}, {"a", "", "a/"}, {"/", "b", "//b"}, {"a/", "b", "a//b"}, {"a", "/b", "a//b"},
		{"a/b", "c/d", "a/b/c/d"}, {"/", "", "//"}, {"\x00", "\xff", "\x00/\xff"},
		{of(200), of(200), of(200) + "/" + of(200)},
	} {
		if got := strf.Join(c.prefix, c.name); got != c.want {
			t.Errorf("Join(%q, %q) = %q, not %q", c.prefix, c.name, got, c.want)
		}
	}
}

func TestLaidIsRead(t *testing.T) { // P2.3
	for _, s := range texts() {
		for width := max(1, len(s)); width <= 512; width++ {
			b, e := strf.Put(s, width)
			if len(b) != width || e != api.OK {
				t.Errorf("Put(%q, %d): %d bytes, %d", s, width, len(b), e)
				continue
			}
			if got, e := strf.Get(b); got != s || e != api.OK {
				t.Errorf("Get(Put(%q, %d)) = %q, %d", s, width, got, e)
			}
			if got := strf.Loose(b); got != s {
				t.Errorf("Loose(Put(%q, %d)) = %q", s, width, got)
			}
		}
	}
}

func TestPartedIsJoined(t *testing.T) { // P2.4
	parted := 0
	for _, path := range paths() {
		prefix, name, ok := strf.Split(path)
		if !ok {
			continue
		}
		parted++
		if got := strf.Join(prefix, name); got != path {
			t.Errorf("Join(Split(%q)) = %q", path, got)
		}
		if len(prefix) > 155 || len(name) < 1 || len(name) > 100 {
			t.Errorf("Split(%q): a prefix of %d bytes, a name of %d", path, len(prefix), len(name))
		}
	}
	if parted < 1000 {
		t.Errorf("only %d paths were parted", parted)
	}
}

func TestNothingIsWrittenOrShared(t *testing.T) { // R3, R4
	for _, f := range []string{"ab\x00\x00", "ab", "a\x00b", ""} {
		b := []byte(f)
		loose := strf.Loose(b)
		text, e := strf.Get(b)
		if string(b) != f {
			t.Errorf("%q was turned to %q", f, b)
		}
		for i := range b {
			b[i] = 'x'
		}
		again, eAgain := strf.Get([]byte(f))
		if loose != strf.Loose([]byte(f)) || text != again || e != eAgain {
			t.Errorf("the text of %q hangs on what is written into it afterwards", f)
		}
	}
	a, _ := strf.Put("ab", 4)
	b, _ := strf.Put("ab", 4)
	clear(a)
	if string(b) != "ab\x00\x00" {
		t.Error("two answers of Put share their bytes")
	}
}
