package ppath_test

import (
	"slices"
	"strings"
	"testing"

	"thwart/api"
	"thwart/ppath"
)

// of is a text of n signs that may stand in a name.
func of(n int) string {
	return strings.Repeat("n", n)
}

// small are all texts of at most n of these bytes.
func small(n int, bytes string) []string {
	all := []string{""}
	for from := 0; n > 0; n-- {
		to := len(all)
		for _, s := range all[from:to] {
			for i := range len(bytes) {
				all = append(all, s+bytes[i:i+1])
			}
		}
		from = to
	}
	return all
}

// filled is a path of n bytes: names of 59 bytes, and what is left.
func filled(n int) string {
	b := []byte(of(n))
	for i := 59; i < n-1; i += 60 {
		b[i] = '/'
	}
	return string(b)
}

// texts are all short ones of bytes that matter, and some long ones at the
// edges.
func texts() []string {
	l := small(5, "/.a\x00")
	l = append(l,
		of(59), of(60), of(61), of(60)+"/"+of(60), of(60)+"/"+of(61), of(61)+"/"+of(60), "a/"+of(61)+"/b",
		"dir/sub/file.txt", "a/b/c", "a/.../b", "/dir/file", "dir/file/", "a//b", "a/./b", "a/../b", "./a", "../a", "a/.", "a/..",
		" ", "a b/ c", "-", "*", "\n", "\xff/\xfe", "\u00e4/\u6f22\u5b57", "a\\b", "c:/d",
		strings.Repeat("a/", 150), strings.Repeat("a/", 149)+"a", strings.Repeat("a/", 149)+"aa", strings.Repeat("a/", 150)+"a",
		of(300), strings.Repeat("/", 300), strings.Repeat(of(60)+"/", 4)+of(56), strings.Repeat(of(60)+"/", 4)+of(57),
	)
	for n := 298; n <= 302; n++ {
		l = append(l, filled(n))
	}
	return l
}

// nameWanted looks at each byte, by the chapter's words.
func nameWanted(s string) bool {
	if len(s) < 1 || len(s) > 60 || s == "." || s == ".." {
		return false
	}
	for i := range len(s) {
		if s[i] == 0 || s[i] == '/' {
			return false
		}
	}
	return true
}

// cutWanted cuts at each `/`, whatever it is.
func cutWanted(s string) []string {
	names, from := []string{}, 0
	for i := range len(s) {
		if s[i] == '/' {
			names, from = append(names, s[from:i]), i+1
		}
	}
	return append(names, s[from:])
}

// partsWanted are a path's names; nothing of what is none.
func partsWanted(s string) []string {
	names := cutWanted(s)
	for _, name := range names {
		if len(s) > 300 || !nameWanted(name) {
			return nil
		}
	}
	return names
}

// lessWanted holds texts byte by byte against each other, with a `/` below all
// other bytes, and an end below a `/`: that is what the order of paths comes to.
func lessWanted(a, b string) bool {
	weights := func(s string) []int {
		l := make([]int, len(s))
		for i := range l {
			if s[i] != '/' {
				l[i] = 1 + int(s[i])
			}
		}
		return l
	}
	return slices.Compare(weights(a), weights(b)) < 0
}

func TestName(t *testing.T) { // P4.1
	for _, s := range []string{
		"a", "ab", "a.b", ".a", "a.", "...", "....", ".. ", " ..", ". ", "..a", "-", "*", "?", " ", "\t", "\n", "\\", ":",
		"\x01", "\x7f", "\x80", "\xff", "\xff\xfe", "\u00e4", "\u6f22\u5b57", "\ufffd", "file.txt", of(59), of(60),
		strings.Repeat(".", 60), strings.Repeat("\u00e4", 30), strings.Repeat("\xff", 60),
	} {
		if !ppath.Name(s) {
			t.Errorf("Name(%q): it is one", s)
		}
	}
	for _, s := range []string{
		"", ".", "..", "/", "\x00", "a/", "/a", "a/b", "./", "../", "/.", "a\x00", "\x00a", "a\x00b", ".\x00",
		of(61), of(300), strings.Repeat("\u00e4", 31), strings.Repeat("\u00e4", 60), of(59) + "/", of(59) + "\x00", "/" + of(59), of(1 << 20),
	} {
		if ppath.Name(s) {
			t.Errorf("Name(%q): it is none", s)
		}
	}
	for _, s := range texts() {
		if got := ppath.Name(s); got != nameWanted(s) {
			t.Errorf("Name(%q) = %t", s, got)
		}
	}
}

// TestNameOfEachByte puts each byte alone, and in each place of names of many
// lengths.
func TestNameOfEachByte(t *testing.T) { // P4.1
	for c := range 256 {
		may := c != 0 && c != '/'
		if s := string([]byte{byte(c)}); ppath.Name(s) != (may && c != '.') {
			t.Errorf("Name(%q) is wrong", s)
		}
		for _, n := range []int{2, 3, 8, 9, 17, 59, 60} {
			for at := range n {
				b := []byte(of(n))
				b[at] = byte(c)
				if ppath.Name(string(b)) != may {
					t.Errorf("Name(%q) is wrong", b)
				}
			}
		}
	}
}

func TestParts(t *testing.T) { // P4.1
	for _, c := range []struct {
		s    string
		want []string
	}{
		{"a", []string{"a"}},
		{"a/b", []string{"a", "b"}},
		{"a/a/a", []string{"a", "a", "a"}},
		{"dir/sub.d/file.txt", []string{"dir", "sub.d", "file.txt"}},
		{".../..a/.b", []string{"...", "..a", ".b"}},
		{"a b/ c", []string{"a b", " c"}},
		{"\xff/\u00e4", []string{"\xff", "\u00e4"}},
		{of(60) + "/" + of(60), []string{of(60), of(60)}},
		{strings.Repeat(of(59)+"/", 4) + of(60), []string{of(59), of(59), of(59), of(59), of(60)}},
		{strings.Repeat(of(60)+"/", 4) + of(56), []string{of(60), of(60), of(60), of(60), of(56)}},
	} {
		if names, e := ppath.Parts(c.s); !slices.Equal(names, c.want) || e != api.OK {
			t.Errorf("Parts(%q) = %q, %d, not %q", c.s, names, e, c.want)
		}
	}
	for _, s := range texts() {
		want, wantErr := partsWanted(s), api.OK
		if want == nil {
			wantErr = api.ErrPath
		}
		if names, e := ppath.Parts(s); !slices.Equal(names, want) || e != wantErr {
			t.Errorf("Parts(%q) = %q, %d, not %q, %d", s, names, e, want, wantErr)
		}
		if got := ppath.May(s); got != (want != nil) {
			t.Errorf("May(%q) = %t", s, got)
		}
	}
}

func TestNoPath(t *testing.T) { // P4.1
	for _, s := range []string{
		"", "/", "//", "/a", "a/", "/a/", "a//b", "//a", "a//", ".", "..", "./a", "../a", "a/.", "a/..", "a/./b", "a/../b",
		"\x00", "a\x00", "a/\x00", "a/b\x00c", "\x00/a", "a/b/c\x00/d", of(61), "a/" + of(61), of(61) + "/a", "a/" + of(61) + "/b",
		of(300), of(301), strings.Repeat("/", 300), strings.Repeat("a/", 150), strings.Repeat("a/", 150) + "a",
		strings.Repeat(of(60)+"/", 4) + of(57), strings.Repeat("a/", 1<<19) + "a", of(1 << 20), strings.Repeat("/", 1<<20),
	} {
		if names, e := ppath.Parts(s); len(names) != 0 || e != api.ErrPath {
			t.Errorf("Parts(%q) = %q, %d, not ErrPath", s, names, e)
		}
		if ppath.May(s) {
			t.Errorf("May(%q): it is no path", s)
		}
	}
}

func TestPathOfEachLength(t *testing.T) { // P4.1: 300 bytes are the most
	for n := 1; n <= 400; n++ {
		s := filled(n)
		names, e := ppath.Parts(s)
		if n <= 300 && (e != api.OK || strings.Join(names, "/") != s || !ppath.May(s)) {
			t.Errorf("a path of %d bytes: %q, %d", n, names, e)
		}
		if n > 300 && (e != api.ErrPath || len(names) != 0 || ppath.May(s)) {
			t.Errorf("%d bytes are a path: %q, %d", n, names, e)
		}
	}
	for _, s := range []string{strings.Repeat("a/", 149) + "a", strings.Repeat("a/", 149) + "aa"} {
		if names, e := ppath.Parts(s); len(names) != 150 || e != api.OK {
			t.Errorf("Parts of %d bytes: %d names, %d", len(s), len(names), e)
		}
	}
}

func TestLess(t *testing.T) { // P4.1
	for _, c := range []struct{ a, b string }{
		{"a", "b"}, {"a", "aa"}, {"a/b", "a.b"}, {"a", "a/b"}, {"a/b", "a/b/c"}, {"a/b", "a/c"}, {"a/z", "b/a"}, {"a/z/z", "ab"},
		{"a/b", "a\x00b"}, {"a/b", "a-b"}, {"a/b", "a b"}, {"a/\xff", "a\x01"}, {"A", "a"}, {"Z/z", "a"}, {"9", "a"}, {"10", "9"},
		{"\x7f", "\x80"}, {"a/z", "a0"}, {"a/b/c", "a/b.c"}, {"a/b/c", "a.b/c"}, {"a\u00e4", "a\u6f22"},
		// What is no path is cut, too.
		{"", "a"}, {"", "/"}, {"", "\x00"}, {"/", "//"}, {"/", "/a"}, {"/a", "a"}, {"//", "/a"}, {"a", "a/"}, {"a/", "a//"}, {"a/", "a/b"},
		{"a//b", "a/b"}, {"a//z", "a/\x00"}, {"/z", "\x00"}, {"a/", "a\x00"}, {".", ".."}, {"../a", ".../a"}, {"./b", "../a"},
		{of(300), of(301)}, {of(1 << 20), of(1<<20) + "/"}, {strings.Repeat("a/", 1<<19), strings.Repeat("a/", 1<<19) + "a"},
	} {
		if !ppath.Less(c.a, c.b) {
			t.Errorf("Less(%q, %q): it is", c.a, c.b)
		}
		if ppath.Less(c.b, c.a) {
			t.Errorf("Less(%q, %q): it is not", c.b, c.a)
		}
		if ppath.Less(c.a, c.a) || ppath.Less(c.b, c.b) {
			t.Errorf("%q or %q is ahead of itself", c.a, c.b)
		}
	}
}

// TestLessOfAll holds all short texts against each other.
func TestLessOfAll(t *testing.T) { // P4.1
	for _, l := range [][]string{small(4, "/.a\x00"), small(3, "/0\xff\x7f\x80"), small(6, "/-"), texts()[1000:]} {
		for _, a := range l {
			for _, b := range l {
				if got := ppath.Less(a, b); got != lessWanted(a, b) {
					t.Errorf("Less(%q, %q) = %t", a, b, got)
				}
			}
		}
	}
}

func TestParentAndBase(t *testing.T) { // P4.2
	for _, c := range []struct{ s, parent, base string }{
		{"", "", ""}, {"a", "", "a"}, {"a/b", "a", "b"}, {"a/b/c", "a/b", "c"}, {"dir/sub/file.txt", "dir/sub", "file.txt"},
		{"/", "", ""}, {"/a", "", "a"}, {"a/", "a", ""}, {"//", "/", ""}, {"/a/", "/a", ""}, {"a//b", "a/", "b"}, {"//a", "/", "a"},
		{".", "", "."}, {"..", "", ".."}, {"../a", "..", "a"}, {"a/..", "a", ".."}, {"a\x00/b\x00", "a\x00", "b\x00"}, {"\xff/\xfe", "\xff", "\xfe"},
		{of(400), "", of(400)}, {of(400) + "/" + of(400), of(400), of(400)}, {strings.Repeat("/", 1000), strings.Repeat("/", 999), ""},
	} {
		if got := ppath.Parent(c.s); got != c.parent {
			t.Errorf("Parent(%q) = %q, not %q", c.s, got, c.parent)
		}
		if got := ppath.Base(c.s); got != c.base {
			t.Errorf("Base(%q) = %q, not %q", c.s, got, c.base)
		}
	}
	for _, s := range texts() {
		names := cutWanted(s)
		last := len(names) - 1
		if got, want := ppath.Parent(s), strings.Join(names[:last], "/"); got != want {
			t.Errorf("Parent(%q) = %q, not %q", s, got, want)
		}
		if got := ppath.Base(s); got != names[last] {
			t.Errorf("Base(%q) = %q, not %q", s, got, names[last])
		}
	}
}

func TestJoin(t *testing.T) { // P4.2
	for _, c := range []struct{ top, s, want string }{
		{"", "", ""}, {"a", "", "a"}, {"", "a", "a"}, {"a", "b", "a/b"}, {"a/b", "c/d", "a/b/c/d"}, {"a/b", "", "a/b"}, {"", "a/b", "a/b"},
		{"/", "", "/"}, {"", "/", "/"}, {"/", "/", "///"}, {"a/", "b", "a//b"}, {"a", "/b", "a//b"}, {".", "..", "./.."}, {"a", "..", "a/.."},
		{"\x00", "\xff", "\x00/\xff"}, {of(300), of(300), of(300) + "/" + of(300)},
	} {
		if got := ppath.Join(c.top, c.s); got != c.want {
			t.Errorf("Join(%q, %q) = %q, not %q", c.top, c.s, got, c.want)
		}
	}
}

func TestUnderAndRest(t *testing.T) { // P4.2
	for _, c := range []struct {
		s, top, rest string
		under        bool
	}{
		{"a/b", "a", "b", true}, {"a/b/c", "a", "b/c", true}, {"a/b/c", "a/b", "c", true}, {"a/a/a", "a", "a/a", true},
		{"a", "a", "", false}, {"a", "a/b", "", false}, {"ab", "a", "", false}, {"ab/c", "a", "", false}, {"a.b", "a", "", false}, {"b/a", "a", "", false},
		{"a/bc", "a/b", "", false}, {"a/b", "b", "", false}, {"x/a/b", "a", "", false}, {"A/b", "a", "", false},
		// Of an empty top.
		{"", "", "", false}, {"a", "", "a", true}, {"a/b", "", "a/b", true}, {"/", "", "/", true}, {"/a", "", "/a", true}, {".", "", ".", true},
		// Of what is no path.
		{"", "a", "", false}, {"a/", "a", "", true}, {"a//", "a", "/", true}, {"a//b", "a", "/b", true}, {"a/b", "a/", "", false}, {"a//b", "a/", "b", true},
		{"/", "/", "", false}, {"//", "/", "", true}, {"/a", "/", "", false}, {"//a", "/", "a", true}, {"a/..", "a", "..", true}, {"../a", "..", "a", true},
		{"\x00/\xff", "\x00", "\xff", true}, {"a/b", of(400), "", false}, {of(400) + "/" + of(400), of(400), of(400), true},
	} {
		rest, ok := ppath.Rest(c.s, c.top)
		if under := ppath.Under(c.s, c.top); under != c.under || ok != c.under || rest != c.rest {
			t.Errorf("of %q, %q: Under %t, Rest %q, %t", c.s, c.top, under, rest, ok)
		}
	}
	for _, s := range small(4, "/a.") {
		for _, top := range small(4, "/a.") {
			want, under := s, s != ""
			if top != "" {
				under = len(s) > len(top) && s[:len(top)+1] == top+"/"
				want = s[min(len(top)+1, len(s)):]
			}
			if !under {
				want = ""
			}
			rest, ok := ppath.Rest(s, top)
			if got := ppath.Under(s, top); got != under || ok != under || rest != want {
				t.Errorf("of %q, %q: Under %t, Rest %q, %t, not %t, %q", s, top, got, rest, ok, under, want)
			}
		}
	}
}

func TestLessIsAnOrder(t *testing.T) { // P4.3
	all := texts()
	for _, a := range all[len(all)-200:] {
		for _, b := range all {
			if n, want := count(ppath.Less(a, b), ppath.Less(b, a)), count(a != b); n != want {
				t.Errorf("of %q and %q %d are ahead, not %d", a, b, n, want)
			}
		}
	}
	some := small(3, "/.a\x00")
	for _, a := range some {
		for _, b := range some {
			for _, c := range some {
				if ppath.Less(a, b) && ppath.Less(b, c) && !ppath.Less(a, c) {
					t.Errorf("%q is ahead of %q, that of %q, but not the first one of the last one", a, b, c)
				}
			}
		}
	}
}

// count tells how many are true.
func count(l ...bool) int {
	n := 0
	for _, x := range l {
		if x {
			n++
		}
	}
	return n
}

func TestParentIsAhead(t *testing.T) { // P4.3
	for _, s := range texts() {
		if !ppath.May(s) {
			continue
		}
		parent := ppath.Parent(s)
		if !ppath.Less(parent, s) || ppath.Less(s, parent) {
			t.Errorf("%q is not ahead of %q", parent, s)
		}
		// All that goes on behind a path stands right behind it.
		for _, other := range []string{s + "\x01", s + "-", s + ".", s + "0"} {
			if !ppath.Less(s+"/\xff", other) {
				t.Errorf("%q is ahead of %q/\\xff", other, s)
			}
		}
	}
}

func TestPathIsParentAndBase(t *testing.T) { // P4.4
	found := 0
	for _, s := range texts() {
		if !ppath.May(s) {
			continue
		}
		found++
		parent, base := ppath.Parent(s), ppath.Base(s)
		if got := ppath.Join(parent, base); got != s {
			t.Errorf("Join(%q, %q) = %q, not %q", parent, base, got, s)
		}
		if !ppath.Name(base) || parent != "" && !ppath.May(parent) {
			t.Errorf("%q has the parent %q and the base %q", s, parent, base)
		}
		if rest, ok := ppath.Rest(s, parent); rest != base || !ok || !ppath.Under(s, parent) {
			t.Errorf("Rest(%q, %q) = %q, %t", s, parent, rest, ok)
		}
	}
	if found < 40 {
		t.Errorf("only %d paths were looked at", found)
	}
}

func TestNothingIsShared(t *testing.T) { // R3, R4
	names, _ := ppath.Parts("a/b")
	again, _ := ppath.Parts("a/b")
	names[0] = "x"
	if third, e := ppath.Parts("a/b"); !slices.Equal(again, []string{"a", "b"}) || !slices.Equal(third, again) || e != api.OK {
		t.Errorf("two answers of Parts share their names: %q, %q", again, third)
	}
}
