package recs_test

import (
	"archive/tar"
	"bytes"
	"fmt"
	"math/rand"
	"regexp"
	"slices"
	"strconv"
	"strings"
	"testing"

	"thwart/api"
	"thwart/head"
	"thwart/recs"
)

// of is a text of n signs.
func of(n int) string {
	return strings.Repeat("n", n)
}

// mayWanted looks at a record by the chapter's words.
func mayWanted(r recs.Rec) api.Errno {
	n := 0
	for i := range len(r.Key) {
		if c := r.Key[i]; c == 61 || c == 10 || c == 0 {
			return api.ErrForm
		}
		n++
	}
	if n < 1 || n > 60 {
		return api.ErrForm
	}
	if len(r.Value) > 2000 {
		return api.ErrBig
	}
	return api.OK
}

// laidWanted lays a record by the chapter's words: by the least number that
// tells how many bytes it makes.
func laidWanted(r recs.Rec) string {
	body := " " + r.Key + "=" + r.Value + "\n"
	for n := 1; ; n++ {
		if told := strconv.Itoa(n); len(told)+len(body) == n {
			return told + body
		}
	}
}

// begins is what a record begins by.
var begins = regexp.MustCompile(`^([1-9][0-9]{0,3}) `)

// readWanted reads bytes by the chapter's words.
func readWanted(s string) ([]recs.Rec, api.Errno) {
	var l []recs.Rec
	for s != "" {
		m := begins.FindStringSubmatch(s)
		if m == nil {
			return nil, api.ErrForm
		}
		n, _ := strconv.Atoi(m[1])
		if n > len(s) {
			return nil, api.ErrEnd
		}
		one := s[:n]
		s = s[n:]
		at := strings.IndexByte(one, '=')
		if n < len(m[0])+1 || one[n-1] != 10 || at < 0 {
			return nil, api.ErrForm
		}
		r := recs.Rec{Key: one[len(m[0]):at], Value: one[at+1 : n-1]}
		if mayWanted(r) != api.OK || less(n, len(m[1])) {
			return nil, api.ErrForm
		}
		l = append(l, r)
	}
	return l, api.OK
}

// less tells whether a length of a digit less would do as well as n.
func less(n, digits int) bool {
	return digits > 1 && len(strconv.Itoa(n-1)) == digits-1
}

// sized is a record of which the blank and all behind it are so many bytes.
func sized(n int) recs.Rec {
	key := min(max(n-4, 1), 60)
	return recs.Rec{Key: of(key), Value: strings.Repeat("v", n-3-key)}
}

// mayBe are records that may be: each part with all its edges.
func mayBe() []recs.Rec {
	l := []recs.Rec{
		{Key: "a", Value: "b"}, {Key: "path", Value: "a/b"}, {Key: "linkpath", Value: of(300)}, {Key: " ", Value: " "},
		{Key: "6 a", Value: "6 a=b\n"}, {Key: "10", Value: "10"}, {Key: "\xff\xfe\x80", Value: "\xff\x00\x80"},
		{Key: "\u00e4\u6f22", Value: "\u00e4\u6f22"}, {Key: "\t\r/\x01", Value: "\t\r/\x01"}, {Key: "a", Value: "=\n\x00"},
		{Key: "a", Value: "="}, {Key: "a", Value: "\n"}, {Key: "a", Value: "\n\n\n"}, {Key: "a", Value: "\x00"}, {Key: "a", Value: "b=c=d"},
	}
	for _, n := range []int{1, 2, 8, 9, 10, 59, 60} {
		for _, c := range []string{"k", "\xff", " ", "7"} {
			l = append(l, recs.Rec{Key: strings.Repeat(c, n)}, recs.Rec{Key: strings.Repeat(c, n), Value: of(2000)})
		}
	}
	for n := range 2001 {
		l = append(l, recs.Rec{Key: "a", Value: strings.Repeat("=", n)})
	}
	for n := 4; n <= 2063; n++ {
		l = append(l, sized(n))
	}
	return l
}

// fault is a record that may not be.
type fault struct {
	r recs.Rec
	e api.Errno
}

func faults() []fault {
	return []fault{
		{recs.Rec{}, api.ErrForm},
		{recs.Rec{Value: "b"}, api.ErrForm},
		{recs.Rec{Key: "=", Value: "b"}, api.ErrForm},
		{recs.Rec{Key: "\n", Value: "b"}, api.ErrForm},
		{recs.Rec{Key: "\x00", Value: "b"}, api.ErrForm},
		{recs.Rec{Key: "a=", Value: "b"}, api.ErrForm},
		{recs.Rec{Key: "a\nb", Value: "b"}, api.ErrForm},
		{recs.Rec{Key: "\x00ab", Value: "b"}, api.ErrForm},
		{recs.Rec{Key: of(59) + "=", Value: ""}, api.ErrForm},
		{recs.Rec{Key: of(61), Value: ""}, api.ErrForm},
		{recs.Rec{Key: strings.Repeat("\u00e4", 31), Value: ""}, api.ErrForm},
		{recs.Rec{Key: of(1 << 20), Value: "b"}, api.ErrForm},
		{recs.Rec{Key: "a", Value: of(2001)}, api.ErrBig},
		{recs.Rec{Key: of(60), Value: of(2001)}, api.ErrBig},
		{recs.Rec{Key: "a", Value: strings.Repeat("\u00e4", 1001)}, api.ErrBig},
		{recs.Rec{Key: "a", Value: of(1 << 20)}, api.ErrBig},
		// Of two errors the key's stands ahead.
		{recs.Rec{Value: of(2001)}, api.ErrForm},
		{recs.Rec{Key: "a=b", Value: of(2001)}, api.ErrForm},
		{recs.Rec{Key: of(61), Value: of(1 << 20)}, api.ErrForm},
	}
}

func TestMay(t *testing.T) { // P6.1
	for _, r := range mayBe() {
		if e := recs.May(r); e != api.OK {
			t.Errorf("May(%q) = %d", r, e)
		}
	}
	for _, f := range faults() {
		if e := recs.May(f.r); e != f.e {
			t.Errorf("May(%.80q) = %d, not %d", f.r, e, f.e)
		}
	}
	for n := range 70 {
		want := api.OK
		if n < 1 || n > 60 {
			want = api.ErrForm
		}
		if e := recs.May(recs.Rec{Key: of(n)}); e != want {
			t.Errorf("May of a key of %d bytes = %d, not %d", n, e, want)
		}
	}
	for n := range 2100 {
		want := api.OK
		if n > 2000 {
			want = api.ErrBig
		}
		if e := recs.May(recs.Rec{Key: "a", Value: of(n)}); e != want {
			t.Errorf("May of a value of %d bytes = %d, not %d", n, e, want)
		}
	}
}

// TestEachByte puts each byte in each place of keys and of values: a key has
// three that may not be, a value none.
func TestEachByte(t *testing.T) { // P6.1
	for _, text := range []string{"a", "abc", of(8), of(9), of(60), "\u6f22\u6f22"} {
		for at := range len(text) {
			for c := range 256 {
				b := []byte(text)
				b[at] = byte(c)
				want := api.OK
				if c == '=' || c == 10 || c == 0 {
					want = api.ErrForm
				}
				if e := recs.May(recs.Rec{Key: string(b)}); e != want {
					t.Errorf("May of the key %q = %d, not %d", b, e, want)
				}
				r := recs.Rec{Key: "a", Value: string(b)}
				if one, e := recs.One(r); string(one) != laidWanted(r) || e != api.OK {
					t.Errorf("One(%q) = %q, %d", r, one, e)
				}
			}
		}
	}
}

func TestOneAndLen(t *testing.T) { // P6.1
	for _, c := range []struct {
		r    recs.Rec
		want string
	}{
		{recs.Rec{Key: "a", Value: "b"}, "6 a=b\n"},
		{recs.Rec{Key: "a"}, "5 a=\n"},
		{recs.Rec{Key: "abc", Value: "de"}, "9 abc=de\n"},
		{recs.Rec{Key: "abc", Value: "def"}, "11 abc=def\n"},
		{recs.Rec{Key: "path", Value: "a/b"}, "12 path=a/b\n"},
		{recs.Rec{Key: "a", Value: of(93)}, "99 a=" + of(93) + "\n"},
		{recs.Rec{Key: "a", Value: of(94)}, "101 a=" + of(94) + "\n"},
		{recs.Rec{Key: "a", Value: of(992)}, "999 a=" + of(992) + "\n"},
		{recs.Rec{Key: "a", Value: of(993)}, "1001 a=" + of(993) + "\n"},
		{recs.Rec{Key: of(60), Value: of(2000)}, "2067 " + of(60) + "=" + of(2000) + "\n"},
	} {
		if b, e := recs.One(c.r); string(b) != c.want || e != api.OK {
			t.Errorf("One(%q) = %q, %d, not %q", c.r, b, e, c.want)
		}
		if n := recs.Len(c.r); n != len(c.want) {
			t.Errorf("Len(%q) = %d, not %d", c.r, n, len(c.want))
		}
	}
	for _, r := range mayBe() {
		want := laidWanted(r)
		if b, e := recs.One(r); string(b) != want || e != api.OK {
			t.Errorf("One(%q) = %q, %d, not %q", r, b, e, want)
		}
		if n := recs.Len(r); n != len(want) {
			t.Errorf("Len(%q) = %d, not %d", r, n, len(want))
		}
	}
}

func TestOneThatMayNotBe(t *testing.T) { // P6.1
	for _, f := range faults() {
		if b, e := recs.One(f.r); b != nil || e != f.e {
			t.Errorf("One(%.80q) = %.80q, %d, not %d", f.r, b, e, f.e)
		}
		if n := recs.Len(f.r); n != 0 {
			t.Errorf("Len(%.80q) = %d, not 0", f.r, n)
		}
	}
}

func TestLay(t *testing.T) { // P6.1
	for _, l := range [][]recs.Rec{nil, {}} {
		if b, e := recs.Lay(l); len(b) != 0 || e != api.OK {
			t.Errorf("Lay of nothing = %q, %d", b, e)
		}
	}
	two := []recs.Rec{{Key: "b", Value: "1"}, {Key: "a", Value: "22"}, {Key: "b", Value: ""}, {Key: "b", Value: "1"}}
	if b, e := recs.Lay(two); string(b) != "6 b=1\n7 a=22\n5 b=\n6 b=1\n" || e != api.OK {
		t.Errorf("Lay(%q) = %q, %d", two, b, e)
	}
	var want strings.Builder
	for _, r := range mayBe() {
		want.WriteString(laidWanted(r))
	}
	if b, e := recs.Lay(mayBe()); string(b) != want.String() || e != api.OK {
		t.Errorf("Lay of all that may be: %d bytes, %d, not %d", len(b), e, want.Len())
	}
}

// TestLayFaults lays lists with one fault in each place, and with two: the
// first one's error is told.
func TestLayFaults(t *testing.T) { // P6.1
	good := recs.Rec{Key: "a", Value: "b"}
	for _, f := range faults() {
		for at := range 4 {
			l := []recs.Rec{good, good, good, good}
			l[at] = f.r
			if b, e := recs.Lay(l); b != nil || e != f.e {
				t.Errorf("Lay with %.80q at %d = %.80q, %d, not %d", f.r, at, b, e, f.e)
			}
		}
		for _, g := range faults() {
			if b, e := recs.Lay([]recs.Rec{good, f.r, g.r}); b != nil || e != f.e {
				t.Errorf("Lay with %.80q and %.80q = %.80q, %d, not %d", f.r, g.r, b, e, f.e)
			}
		}
	}
}

// isRead looks what bytes are read as.
func isRead(t *testing.T, s string, want []recs.Rec, wantErr api.Errno) {
	t.Helper()
	if l, e := recs.Parse([]byte(s)); !slices.Equal(l, want) || e != wantErr {
		t.Errorf("Parse(%.80q) = %.80q, %d, not %.80q, %d", s, l, e, want, wantErr)
	}
}

func TestParse(t *testing.T) { // P6.2
	isRead(t, "", nil, api.OK)
	isRead(t, "6 a=b\n", []recs.Rec{{Key: "a", Value: "b"}}, api.OK)
	isRead(t, "5 a=\n", []recs.Rec{{Key: "a"}}, api.OK)
	isRead(t, "9 a==\n\x00=\n", []recs.Rec{{Key: "a", Value: "=\n\x00="}}, api.OK)
	isRead(t, "6 a=\n\n", []recs.Rec{{Key: "a", Value: "\n"}}, api.OK)
	isRead(t, "7  a= \n", []recs.Rec{{Key: " a", Value: " "}}, api.OK)
	isRead(t, "11 abc=def\n5 7=\n", []recs.Rec{{Key: "abc", Value: "def"}, {Key: "7"}}, api.OK)
	isRead(t, "11 a=5 b=\n\n", []recs.Rec{{Key: "a", Value: "5 b=\n"}}, api.OK)
	isRead(t, "99 a="+of(93)+"\n", []recs.Rec{{Key: "a", Value: of(93)}}, api.OK)
	isRead(t, "101 a="+of(94)+"\n", []recs.Rec{{Key: "a", Value: of(94)}}, api.OK)
	isRead(t, "999 a="+of(992)+"\n", []recs.Rec{{Key: "a", Value: of(992)}}, api.OK)
	isRead(t, "1001 a="+of(993)+"\n", []recs.Rec{{Key: "a", Value: of(993)}}, api.OK)
	isRead(t, "2067 "+of(60)+"="+of(2000)+"\n", []recs.Rec{{Key: of(60), Value: of(2000)}}, api.OK)
	for _, r := range mayBe() {
		isRead(t, laidWanted(r), []recs.Rec{r}, api.OK)
		isRead(t, laidWanted(r)+"6 a=b\n"+laidWanted(r), []recs.Rec{r, {Key: "a", Value: "b"}, r}, api.OK)
	}
	if l, e := recs.Parse(nil); len(l) != 0 || e != api.OK {
		t.Errorf("Parse(nil) = %q, %d", l, e)
	}
}

// torn is what may not be read.
type torn struct {
	s string
	e api.Errno
}

func wrong() []torn {
	return []torn{
		// It does not begin with one to four digits and a blank.
		{" ", api.ErrForm}, {" 6 a=b\n", api.ErrForm}, {"a=b\n", api.ErrForm}, {"\n", api.ErrForm}, {"\x00", api.ErrForm},
		{"6", api.ErrForm}, {"6=a=b\n", api.ErrForm}, {"6\ta=b\n", api.ErrForm}, {"6\na=b\n", api.ErrForm}, {"6\x00a=b\n", api.ErrForm},
		{"12", api.ErrForm}, {"123", api.ErrForm}, {"1234", api.ErrForm}, {"12345", api.ErrForm}, {"12345 ", api.ErrForm},
		{"0 a=b\n", api.ErrForm}, {"06 a=b\n", api.ErrForm}, {"07 a=b\n", api.ErrForm}, {"007 a=b\n", api.ErrForm}, {"0", api.ErrForm},
		{"-6 a=b\n", api.ErrForm}, {"+6 a=b\n", api.ErrForm}, {"6a a=b\n", api.ErrForm}, {"x a=b\n", api.ErrForm}, {"/ a=b\n", api.ErrForm},
		{": a=b\n", api.ErrForm}, {"1: a=bcdef\n", api.ErrForm}, {"1/ a=bcdef\n", api.ErrForm}, {"0x6 a=b\n", api.ErrForm},
		{"10009 a=" + of(10000) + "\n", api.ErrForm}, {"00009 a=b\n", api.ErrForm}, {strings.Repeat("9", 40) + " a=b\n", api.ErrForm},
		{"\u0666 a=b\n", api.ErrForm}, {"\xff", api.ErrForm},
		// It has fewer bytes than these tell, whatever stands there.
		{"6 ", api.ErrEnd}, {"6 a=b", api.ErrEnd}, {"7 a=b\n", api.ErrEnd}, {"3 ", api.ErrEnd}, {"9999 ", api.ErrEnd}, {"9999 a=b\n", api.ErrEnd},
		{"100 ", api.ErrEnd}, {"9 \x00\x00\x00", api.ErrEnd}, {"20 " + of(16), api.ErrEnd}, {"9999 =" + of(9000), api.ErrEnd},
		// They tell too few.
		{"1 ", api.ErrForm}, {"1 a=b\n", api.ErrForm}, {"2 ", api.ErrForm}, {"2 \n", api.ErrForm}, {"2 a=b\n", api.ErrForm},
		{"1 \n", api.ErrForm}, {"1 6 a=b\n", api.ErrForm},
		// The last byte is not 10.
		{"6 a=bc", api.ErrForm}, {"5 a=b\n", api.ErrForm}, {"6 a=bc\n", api.ErrForm}, {"6 a=b ", api.ErrForm}, {"6 a=b\r", api.ErrForm},
		{"6 a=b\x00", api.ErrForm}, {"3 =\n", api.ErrForm}, {"3 a", api.ErrForm},
		// There is no `=`.
		{"3 \n", api.ErrForm}, {"4 a\n", api.ErrForm}, {"6 abc\n", api.ErrForm}, {"4 a\n=\n", api.ErrForm}, {"5 a:\n", api.ErrForm},
		{"3 \n=", api.ErrForm}, {"6 abc\n6 a=b\n", api.ErrForm},
		// The record may not be.
		{"4 =\n", api.ErrForm}, {"5 =b\n", api.ErrForm}, {"6 ==b\n", api.ErrForm}, {"7 a\n=b\n", api.ErrForm}, {"7 \x00a=b\n", api.ErrForm},
		{"6 \n=b\n", api.ErrForm}, {laidWanted(recs.Rec{Key: of(61)}), api.ErrForm}, {laidWanted(recs.Rec{Key: of(2000)}), api.ErrForm},
		{laidWanted(recs.Rec{Key: "a", Value: of(2001)}), api.ErrForm}, {laidWanted(recs.Rec{Key: of(60), Value: of(2001)}), api.ErrForm},
		{laidWanted(recs.Rec{Key: "a", Value: of(9991)}), api.ErrForm}, {laidWanted(recs.Rec{Key: of(9000)}), api.ErrForm},
		{laidWanted(recs.Rec{Key: "a=b\nc", Value: of(2001)}), api.ErrForm},
		// A length of a digit less would do as well.
		{"10 abc=de\n", api.ErrForm}, {"10 a=bcde\n", api.ErrForm}, {"100 a=" + of(93) + "\n", api.ErrForm},
		{"1000 a=" + of(992) + "\n", api.ErrForm}, {"100 " + of(60) + "=" + of(34) + "\n", api.ErrForm},
	}
}

func TestParseFaults(t *testing.T) { // P6.2
	for _, f := range wrong() {
		if _, e := readWanted(f.s); e != f.e {
			t.Errorf("readWanted(%.80q) = %d, not %d", f.s, e, f.e)
		}
		isRead(t, f.s, nil, f.e)
		isRead(t, "6 a=b\n"+f.s, nil, f.e)
		isRead(t, "6 a=b\n7 a=cc\n6 a=b\n"+f.s, nil, f.e)
	}
}

// TestParseTheFirstError puts what may not be read ahead of something else that
// may not: the first one's error is told.
func TestParseTheFirstError(t *testing.T) { // P6.2
	isRead(t, "3 \n9 a=b\n", nil, api.ErrForm)
	isRead(t, "4 =\n9 a=b\n", nil, api.ErrForm)
	isRead(t, "6 a=b\n9 a=b\n", nil, api.ErrEnd)
	isRead(t, "6 a=b\n90 a=b\n4 =\n", nil, api.ErrEnd)
	isRead(t, "10 a=bcde\n9 a=b\n", nil, api.ErrForm)
	// A key that may not be, and a byte too few: these are looked at first.
	isRead(t, "5 =b", nil, api.ErrEnd)
	isRead(t, "10 abc=de", nil, api.ErrEnd)
	isRead(t, laidWanted(recs.Rec{Key: "a", Value: of(2001)})[:2000], nil, api.ErrEnd)
}

// TestParseParts reads each part of some records.
func TestParseParts(t *testing.T) { // P6.2
	l := []recs.Rec{{Key: "a", Value: "b"}, {Key: "path", Value: of(100)}, {Key: of(60)}, sized(996), {Key: "c", Value: "=\n"}}
	b, e := recs.Lay(l)
	if e != api.OK {
		t.Fatalf("Lay: %d", e)
	}
	for n := range len(b) + 1 {
		want, wantErr := readWanted(string(b[:n]))
		isRead(t, string(b[:n]), want, wantErr)
	}
}

// TestParseEachLength tells each length of bodies of all sizes: just one of
// them is read, if one is.
func TestParseEachLength(t *testing.T) { // P6.2
	for _, size := range []int{4, 5, 7, 8, 9, 10, 20, 95, 96, 97, 98, 99, 100, 500, 994, 995, 996, 997, 998, 999, 2062, 2063} {
		r := sized(size)
		body := " " + r.Key + "=" + r.Value + "\n"
		read := 0
		for told := range 2100 {
			s := strconv.Itoa(told) + body
			want, wantErr := readWanted(s)
			isRead(t, s, want, wantErr)
			if l, e := recs.Parse([]byte(s)); e == api.OK && len(l) == 1 && l[0] == r {
				read++
			}
		}
		if read != 1 {
			t.Errorf("a body of %d bytes is read with %d lengths", size, read)
		}
	}
}

// TestParseEachByte turns each byte of some records.
func TestParseEachByte(t *testing.T) { // P6.2
	for _, s := range []string{"6 a=b\n", "6 a=b\n7 a=cc\n", "11 abc=def\n", "10 abc=de\n", "13 a=5 b=\n=\n\n"} {
		for at := range len(s) {
			for c := range 256 {
				b := []byte(s)
				b[at] = byte(c)
				want, wantErr := readWanted(string(b))
				isRead(t, string(b), want, wantErr)
			}
		}
	}
}

// TestParseAnything reads bytes of those that records have, in any order, the
// same ones at each run.
func TestParseAnything(t *testing.T) { // P6.2, R1
	signs := []string{"0", "1", "2", "3", "4", "5", "6", "9", " ", "=", "\n", "a", "\x00", "5 a=\n", "6 a=b\n"}
	chance := rand.New(rand.NewSource(6))
	for range 200000 {
		var s strings.Builder
		for range chance.Intn(10) {
			s.WriteString(signs[chance.Intn(len(signs))])
		}
		want, wantErr := readWanted(s.String())
		isRead(t, s.String(), want, wantErr)
	}
}

func TestParseMany(t *testing.T) { // P6.2
	const n = 100000
	l, e := recs.Parse(bytes.Repeat([]byte("6 a=b\n"), n))
	if len(l) != n || e != api.OK {
		t.Errorf("Parse of %d records: %d, %d", n, len(l), e)
	}
}

func TestFind(t *testing.T) { // P6.2
	l := []recs.Rec{{Key: "a", Value: "1"}, {Key: "b", Value: "2"}, {Key: "a", Value: "3"}, {Key: "c"}, {Key: "d", Value: "4"}, {Key: "d"}}
	for _, c := range []struct {
		l     []recs.Rec
		key   string
		value string
		ok    bool
	}{
		{nil, "a", "", false}, {[]recs.Rec{}, "a", "", false}, {nil, "", "", false},
		{l, "a", "3", true}, {l, "b", "2", true}, {l, "c", "", true}, {l, "d", "", true},
		{l[:2], "a", "1", true}, {l[:1], "b", "", false},
		{l, "", "", false}, {l, "A", "", false}, {l, "aa", "", false}, {l, "1", "", false}, {l, "a=", "", false}, {l, of(100), "", false},
		// What may not be in a record is looked for all the same.
		{[]recs.Rec{{Key: "", Value: "x"}, {Key: "=", Value: "y"}, {Key: of(61), Value: of(3000)}}, "", "x", true},
		{[]recs.Rec{{Key: "", Value: "x"}, {Key: "=", Value: "y"}, {Key: of(61), Value: of(3000)}}, "=", "y", true},
		{[]recs.Rec{{Key: "", Value: "x"}, {Key: "=", Value: "y"}, {Key: of(61), Value: of(3000)}}, of(61), of(3000), true},
	} {
		if v, ok := recs.Find(c.l, c.key); v != c.value || ok != c.ok {
			t.Errorf("Find(%.80q, %.80q) = %.80q, %t, not %.80q, %t", c.l, c.key, v, ok, c.value, c.ok)
		}
	}
	read, _ := recs.Parse([]byte("6 a=b\n6 b=c\n6 a=d\n"))
	if v, ok := recs.Find(read, "a"); v != "d" || !ok {
		t.Errorf("Find of what was read = %q, %t", v, ok)
	}
}

func TestLaidIsRead(t *testing.T) { // P6.3
	lists := [][]recs.Rec{nil, mayBe()}
	for _, r := range mayBe() {
		lists = append(lists, []recs.Rec{r}, []recs.Rec{r, {Key: "a", Value: "b"}, r})
	}
	for _, l := range lists {
		b, e := recs.Lay(l)
		if e != api.OK {
			t.Errorf("Lay(%.80q): %d", l, e)
			continue
		}
		got, e := recs.Parse(b)
		if !slices.Equal(got, l) || e != api.OK {
			t.Errorf("Parse(Lay(%.80q)) = %.80q, %d", l, got, e)
		}
		if again, e := recs.Lay(got); !bytes.Equal(again, b) || e != api.OK {
			t.Errorf("Lay(Parse(Lay(%.80q))) = %.80q, %d", l, again, e)
		}
	}
}

// TestReadIsLaidAsTheSame tells bodies of all sizes with lengths around theirs:
// those that are read are laid as they were.
func TestReadIsLaidAsTheSame(t *testing.T) { // P6.3
	for size := 4; size <= 2063; size++ {
		r, read := sized(size), 0
		for digits := range 6 {
			s := fmt.Sprintf("%d %s=%s\n", size+digits, r.Key, r.Value)
			l, e := recs.Parse([]byte(s))
			if e != api.OK {
				continue
			}
			read++
			if b, e := recs.Lay(l); string(b) != s || e != api.OK {
				t.Errorf("Lay(Parse(%.80q)) = %.80q, %d", s, b, e)
			}
		}
		if read != 1 {
			t.Errorf("a body of %d bytes is read with %d lengths", size, read)
		}
	}
}

func TestNothingIsWrittenOrShared(t *testing.T) { // R3, R4
	l := []recs.Rec{{Key: "a", Value: "b"}, {Key: "c", Value: of(200)}, {Key: "a", Value: "d"}}
	kept := slices.Clone(l)
	b, _ := recs.Lay(l)
	laid := bytes.Clone(b)
	one, _ := recs.One(l[0])
	recs.Find(l, "a")
	if !slices.Equal(l, kept) {
		t.Errorf("the records were turned: %q", l)
	}
	read, e := recs.Parse(b)
	if !bytes.Equal(b, laid) || e != api.OK {
		t.Errorf("Parse turned its bytes, or %d", e)
	}
	clear(b)
	clear(one)
	if !slices.Equal(read, kept) {
		t.Errorf("records hang on what is written into their bytes afterwards: %q", read)
	}
	clear(read)
	if again, e := recs.Lay(l); !bytes.Equal(again, laid) || e != api.OK {
		t.Errorf("answers share their bytes: %q, %d", again, e)
	}
}

// archived is an archive of a file, and of its records.
func archived(t *testing.T, records []byte) []byte {
	t.Helper()
	var b []byte
	for _, h := range []head.Header{{Name: "pax", Type: 'x', Size: int64(len(records))}, {Name: "a", Type: '0'}} {
		block, e := head.Lay(h)
		if e != api.OK {
			t.Fatalf("Lay(%+v): %d", h, e)
		}
		b = append(b, block...)
		if h.Type == 'x' {
			b = append(b, records...)
			b = append(b, make([]byte, (512-len(records)%512)%512)...)
		}
	}
	return append(b, make([]byte, 1024)...)
}

// TestLaidForOthers reads records by the library's archives.
func TestLaidForOthers(t *testing.T) { // P6.1
	for size := 13; size <= 2063; size++ {
		r := recs.Rec{Key: "thwart.key", Value: strings.Repeat("v", size-13)}
		if size > 2013 {
			r = sized(size)
		}
		b, e := recs.Lay([]recs.Rec{{Key: "path", Value: "b/c"}, r})
		if e != api.OK {
			t.Fatalf("Lay(%q): %d", r, e)
		}
		h, err := tar.NewReader(bytes.NewReader(archived(t, b))).Next()
		if err != nil {
			t.Errorf("%q is not read: %v", b, err)
			continue
		}
		if v, ok := h.PAXRecords[r.Key]; h.Name != "b/c" || v != r.Value && r.Value != "" || !ok && r.Value != "" {
			t.Errorf("%q is read as %q", b, h.PAXRecords)
		}
	}
}

// TestParseOfOthers reads what the library's archives lay.
func TestParseOfOthers(t *testing.T) { // P6.2
	for n := 1; n <= 2000; n++ {
		var b bytes.Buffer
		wanted := map[string]string{"thwart.key": strings.Repeat("v", n), "thwart.more": "=\n", "path": of(101)}
		err := tar.NewWriter(&b).WriteHeader(&tar.Header{
			Format: tar.FormatPAX, Typeflag: tar.TypeReg, Name: of(101),
			PAXRecords: map[string]string{"thwart.key": wanted["thwart.key"], "thwart.more": "=\n"},
		})
		if err != nil {
			t.Fatal(err)
		}
		h, e := head.Parse(b.Bytes()[:512])
		if h.Type != 'x' || e != api.OK {
			t.Fatalf("Parse = %+v, %d", h, e)
		}
		l, e := recs.Parse(b.Bytes()[512 : 512+h.Size])
		if len(l) != len(wanted) || e != api.OK {
			t.Errorf("Parse = %.80q, %d", l, e)
		}
		for key, value := range wanted {
			if got, ok := recs.Find(l, key); got != value || !ok {
				t.Errorf("Find(%q) = %q, %t", key, got, ok)
			}
		}
	}
}

// FuzzParse reads any bytes: what is read is laid as the same.
func FuzzParse(f *testing.F) { // R1, P6.2, P6.3
	for _, w := range wrong() {
		f.Add([]byte(w.s))
	}
	f.Add([]byte("6 a=b\n11 abc=def\n"))
	f.Fuzz(func(t *testing.T, b []byte) {
		l, e := recs.Parse(b)
		want, wantErr := readWanted(string(b))
		if !slices.Equal(l, want) || e != wantErr {
			t.Errorf("Parse(%q) = %q, %d, not %q, %d", b, l, e, want, wantErr)
		}
		if e != api.OK {
			return
		}
		if laid, e := recs.Lay(l); !bytes.Equal(laid, b) || e != api.OK {
			t.Errorf("Lay(Parse(%q)) = %q, %d", b, laid, e)
		}
	})
}

// FuzzLay lays any record: what is laid is read.
func FuzzLay(f *testing.F) { // R1, P6.1, P6.3
	f.Add("a", "b")
	f.Add("", of(2001))
	f.Add(of(60), of(2000))
	f.Fuzz(func(t *testing.T, key, value string) {
		r := recs.Rec{Key: key, Value: value}
		b, e := recs.One(r)
		if want := mayWanted(r); e != want || recs.May(r) != want || recs.Len(r) != len(b) {
			t.Errorf("One(%q) = %q, %d, not %d", r, b, e, want)
		}
		if e != api.OK {
			return
		}
		if l, e := recs.Parse(b); len(l) != 1 || l[0] != r || e != api.OK {
			t.Errorf("Parse(One(%q)) = %q, %d", r, l, e)
		}
	})
}
