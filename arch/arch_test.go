package arch_test

import (
	"archive/tar"
	"bytes"
	"fmt"
	"io"
	"math/rand"
	"slices"
	"strings"
	"testing"
	"time"

	"thwart/api"
	"thwart/arch"
	"thwart/head"
	"thwart/memb"
	"thwart/recs"
)

// zeros is a block of noughts; ending are the two of them that end an archive.
var (
	zeros  = strings.Repeat("\x00", 512)
	ending = zeros + zeros
)

// of is a text of n signs.
func of(n int) string {
	return strings.Repeat("n", n)
}

// longPath is a path of n bytes that no header has room for, from 257 bytes on.
func longPath(n int) string {
	b := bytes.Repeat([]byte("p"), n)
	for at := 50; at < n-1; at += 51 {
		b[at] = '/'
	}
	return string(b)
}

// filled has bytes 0 behind, up to a whole block.
func filled(s string) string {
	return s + strings.Repeat("\x00", (512-len(s)%512)%512)
}

// block is a header's block; head's own tests look at it.
func block(h head.Header) string {
	b, e := head.Lay(h)
	if e != api.OK {
		panic(fmt.Sprintf("Lay(%+v): %d", h, e))
	}
	return string(b)
}

// entry is a header, and bytes behind it, filled up.
func entry(c byte, name, link, data string) string {
	return block(head.Header{Name: name, Type: c, Link: link, Size: int64(len(data))}) + filled(data)
}

// record lays one, by the least number that tells how many bytes it makes.
func record(key, value string) string {
	for n := 1; ; n++ {
		if s := fmt.Sprintf("%d %s=%s\n", n, key, value); len(s) == n {
			return s
		}
	}
}

// next and all are records of the next member, and of all behind.
func next(records string) string { return entry('x', "pax", "", records) }
func all(records string) string  { return entry('g', "all", "", records) }

// dir, file, hard and sym are members.
func dir(path string) api.Member { return api.Member{Path: path, Kind: api.Dir} }
func file(path, data string) api.Member {
	return api.Member{Path: path, Kind: api.File, Data: []byte(data)}
}
func hard(path, link string) api.Member {
	return api.Member{Path: path, Kind: api.Hard, Link: link}
}
func sym(path, link string) api.Member {
	return api.Member{Path: path, Kind: api.Sym, Link: link}
}

// shown are items as a failure tells them.
func shown(l []arch.Item) string {
	s := ""
	for _, x := range l {
		m := x.Member
		s += fmt.Sprintf(" {%.40q (%d), kind %d, %v, %.40q (%d), %d bytes, to %d}", m.Path, len(m.Path), m.Kind, m.Meta, m.Link, len(m.Link), len(m.Data), x.End)
	}
	return fmt.Sprintf("%d:%s", len(l), s)
}

func same(a, b []arch.Item) bool {
	return slices.EqualFunc(a, b, func(x, y arch.Item) bool { return x.End == y.End && memb.Same(x.Member, y.Member) })
}

// scanned looks what is scanned, and parsed, of bytes.
func scanned(t *testing.T, what, b string, want []arch.Item, wantErr api.Errno) {
	t.Helper()
	l, e := arch.Scan([]byte(b))
	if !same(l, want) || e != wantErr {
		t.Errorf("Scan of %s = %s, %d, not %s, %d", what, shown(l), e, shown(want), wantErr)
	}
	members, e := arch.Parse([]byte(b))
	if e != wantErr {
		t.Errorf("Parse of %s: %d, not %d", what, e, wantErr)
	}
	if e != api.OK {
		want = nil
	}
	if !slices.EqualFunc(members, want, func(m api.Member, x arch.Item) bool { return memb.Same(m, x.Member) }) {
		t.Errorf("Parse of %s = %d members, not %s", what, len(members), shown(want))
	}
}

// scanWanted scans bytes by the chapter's words, block by block.
func scanWanted(b string) (items []arch.Item, e api.Errno) {
	var ofAll, waiting []recs.Rec
	have := len(b) / 512 // whole blocks
	for at := 0; ; {
		if at >= have {
			return items, api.ErrEnd
		}
		first := b[512*at : 512*at+512]
		if first == zeros {
			if at+1 >= have {
				return items, api.ErrEnd
			}
			if b[512*at:512*at+1024] != ending {
				return items, api.ErrForm
			}
			if len(waiting) != 0 || len(b) != 512*at+1024 {
				return items, api.ErrForm
			}
			return items, api.OK
		}
		h, e := head.Parse([]byte(first))
		if e != api.OK {
			return items, e
		}
		if h.Size > 4096 {
			return items, api.ErrBig
		}
		need := (int(h.Size) + 511) / 512
		if at+1+need > have {
			return items, api.ErrEnd
		}
		data := b[512*at+512 : 512*at+512+int(h.Size)]
		at += 1 + need
		if h.Type == 'x' || h.Type == 'g' {
			l, e := recs.Parse([]byte(data))
			if e != api.OK {
				return items, e
			}
			if h.Type == 'g' {
				ofAll = append(ofAll, l...)
			} else if len(waiting) != 0 {
				return items, api.ErrForm
			} else {
				waiting = l
			}
			continue
		}
		m, e := memb.From(h, append(slices.Clone(ofAll), waiting...), []byte(data))
		if e != api.OK {
			return items, e
		}
		if len(items) == 64 {
			return items, api.ErrMany
		}
		waiting = nil
		items = append(items, arch.Item{Member: m, End: 512 * at})
	}
}

// asWanted looks whether bytes are scanned by the chapter's words, and what is
// scanned is scanned again.
func asWanted(t *testing.T, what, b string) {
	t.Helper()
	want, wantErr := scanWanted(b)
	scanned(t, what, b, want, wantErr)
	if wantErr != api.OK {
		return
	}
	again(t, what, membersOf(want))
}

func membersOf(items []arch.Item) []api.Member {
	var l []api.Member
	for _, x := range items {
		l = append(l, x.Member)
	}
	return l
}

// again lays members, and scans them: they end where Ends tells.
func again(t *testing.T, what string, l []api.Member) {
	t.Helper()
	b, e := arch.Lay(l)
	if e != api.OK {
		t.Errorf("Lay of %s: %d", what, e)
		return
	}
	ends := arch.Ends(l)
	if len(ends) != len(l) {
		t.Errorf("Ends of %s = %d", what, ends)
		return
	}
	var want []arch.Item
	for i, m := range l {
		want = append(want, arch.Item{Member: m, End: ends[i]})
	}
	scanned(t, what+", laid", string(b), want, api.OK)
}

// lists are lists of members that may be, of all kinds, with all edges.
func lists() [][]api.Member {
	long, link := longPath(300), of(300)
	meta := api.Meta{Mode: 4095, Uid: 1<<40 - 1, Gid: 1 << 21, Mtime: -1 << 50}
	l := [][]api.Member{
		nil, {},
		{dir("a")}, {file("a", "")}, {file("a", "b")}, {hard("a", "b")}, {sym("a", "../b")},
		{dir(long)}, {hard("a", long)}, {hard(long, long)}, {sym("a", link)}, {sym(long, link)},
		{dir("a"), file("a/b", of(512)), hard("a/c", "a/b"), sym("a/d", "b")},
		{file(long, of(4096)), sym(long, link), dir("z")},
		// A list of members that make no tree is an archive, too.
		{dir("b"), dir("a"), dir("a"), file("a", "x"), hard("c", "d")},
		{{Path: "a", Kind: api.File, Meta: meta, Data: []byte("b")}, {Path: "b", Kind: api.Dir, Meta: meta}},
		{{Path: "a", Kind: api.Sym, Meta: meta, Link: "\xff\n"}, {Path: "path=a\n", Kind: api.Hard, Meta: meta, Link: "x"}},
	}
	for _, n := range []int{1, 2, 511, 512, 513, 1023, 1024, 1025, 4095, 4096} {
		l = append(l, []api.Member{file("a", of(n)), file("b", strings.Repeat("\x00", n)), dir("c")})
	}
	for n := 95; n <= 300; n += 5 {
		l = append(l, []api.Member{dir(longPath(n)), hard(longPath(n), longPath(n)), sym("s", of(n)), dir("e")})
	}
	var many []api.Member
	for i := range 64 {
		many = append(many, file(fmt.Sprintf("f%d", i), of(i)))
		l = append(l, slices.Clone(many))
	}
	return l
}

func TestLayLenAndEnds(t *testing.T) { // P9.1
	for i, l := range lists() {
		laid := ""
		var ends []int
		for _, m := range l {
			b, e := memb.Lay(m)
			if e != api.OK {
				t.Fatalf("list %d: %d", i, e)
			}
			laid += string(b)
			ends = append(ends, len(laid))
		}
		laid += ending
		if b, e := arch.Lay(l); string(b) != laid || e != api.OK {
			t.Errorf("Lay of list %d: %d bytes, %d, not %d", i, len(b), e, len(laid))
		}
		if n := arch.Len(l); n != len(laid) {
			t.Errorf("Len of list %d = %d, not %d", i, n, len(laid))
		}
		if got := arch.Ends(l); !slices.Equal(got, ends) {
			t.Errorf("Ends of list %d = %d, not %d", i, got, ends)
		}
	}
}

// TestLaidInFull holds an archive against its bytes as they are written in full.
func TestLaidInFull(t *testing.T) { // P9.1
	if b, e := arch.Lay(nil); string(b) != strings.Repeat("\x00", 1024) || e != api.OK {
		t.Errorf("Lay of no members: %q, %d", b, e)
	}
	if n, ends := arch.Len(nil), arch.Ends(nil); n != 1024 || len(ends) != 0 {
		t.Errorf("of no members: Len %d, Ends %d", n, ends)
	}
	long := longPath(300)
	l := []api.Member{dir("a"), file("a/b", of(513)), hard(long, "a/b"), file("z", "")}
	records := filled("310 path=" + long + "\n")
	want := entry('5', "a", "", "") +
		block(head.Header{Name: "a/b", Type: '0', Size: 513}) + of(513) + strings.Repeat("\x00", 511) +
		block(head.Header{Name: "pax", Type: 'x', Size: 310}) + records +
		entry('1', long[:100], "a/b", "") +
		entry('0', "z", "", "") +
		strings.Repeat("\x00", 1024)
	if b, e := arch.Lay(l); string(b) != want || e != api.OK {
		t.Errorf("Lay: %.5000q, %d", b, e)
	}
	if n, ends := arch.Len(l), arch.Ends(l); n != 5120 || !slices.Equal(ends, []int{512, 2048, 3584, 4096}) {
		t.Errorf("Len %d, Ends %d", n, ends)
	}
}

// refused looks whether a list is refused by that error.
func refused(t *testing.T, what string, l []api.Member, want api.Errno) {
	t.Helper()
	if b, e := arch.Lay(l); b != nil || e != want {
		t.Errorf("Lay of %s: %d bytes, %d, not %d", what, len(b), e, want)
	}
	if n, ends := arch.Len(l), arch.Ends(l); n != 0 || ends != nil {
		t.Errorf("of %s: Len %d, Ends %d", what, n, ends)
	}
}

func TestRefused(t *testing.T) { // P9.1
	bad := []struct {
		m api.Member
		e api.Errno
	}{
		{api.Member{}, api.ErrPath}, {dir("a//b"), api.ErrPath}, {dir(longPath(301)), api.ErrPath},
		{api.Member{Path: "a", Kind: 5}, api.ErrKind},
		{api.Member{Path: "a", Kind: api.Dir, Meta: api.Meta{Mode: 4096}}, api.ErrBig},
		{file("a", of(4097)), api.ErrBig},
		{hard("a", ".."), api.ErrPath}, {sym("a", ""), api.ErrForm}, {sym("a", of(301)), api.ErrBig},
		{api.Member{Path: "a", Kind: api.Dir, Data: []byte("b")}, api.ErrForm},
	}
	good := []api.Member{dir("a"), file("b", "c"), sym("s", of(200))}
	for _, x := range bad {
		refused(t, shown([]arch.Item{{Member: x.m}}), []api.Member{x.m}, x.e)
		for at := range 4 {
			refused(t, fmt.Sprintf("one at %d", at), slices.Insert(slices.Clone(good), at, x.m), x.e)
		}
		// The first one's error is told.
		for _, y := range bad {
			refused(t, "two of them", append(slices.Clone(good), x.m, dir("a"), y.m), x.e)
		}
	}
	many := slices.Repeat([]api.Member{dir("a")}, 65)
	refused(t, "65 members", many, api.ErrMany)
	refused(t, "more", slices.Repeat(many, 100), api.ErrMany)
	if n := arch.Len(many[:64]); n != 64*512+1024 {
		t.Errorf("Len of 64 members = %d", n)
	}
	for _, x := range bad {
		many[0], many[64] = x.m, dir("a")
		refused(t, "65 members, the first may not be", many, api.ErrMany)
		refused(t, "64 members, the first may not be", many[:64], x.e)
		many[0], many[64] = dir("a"), x.m
		refused(t, "65 members, the last may not be", many, api.ErrMany)
	}
}

// at is a member that ends there.
func at(end int, m api.Member) arch.Item { return arch.Item{Member: m, End: end} }

func TestScan(t *testing.T) { // P9.2
	long, link := longPath(300), of(300)
	for _, c := range []struct {
		what, b string
		want    []arch.Item
	}{
		{"no members", ending, nil},
		{"a Dir", entry('5', "a", "", "") + ending, []arch.Item{at(512, dir("a"))}},
		{"a File", entry('0', "a", "", "x") + ending, []arch.Item{at(1024, file("a", "x"))}},
		{"all kinds", entry('5', "a", "", "") + entry('0', "b", "", of(512)) + entry('1', "c", "b", "") + entry('2', "d", "b", "") + ending,
			[]arch.Item{at(512, dir("a")), at(1536, file("b", of(512))), at(2048, hard("c", "b")), at(2560, sym("d", "b"))}},
		{"a File of all bytes", entry('0', "a", "", of(4096)) + ending, []arch.Item{at(4608, file("a", of(4096)))}},
		// Bytes of what is no File play no part, but are gone by.
		{"bytes of others", entry('5', "a", "", of(513)) + entry('1', "b", "a", "x") + entry('2', "c", "a", ending) + ending,
			[]arch.Item{at(1536, dir("a")), at(2560, hard("b", "a")), at(4096, sym("c", "a"))}},
		// What fills up plays no part.
		{"what fills up", block(head.Header{Name: "a", Type: '0', Size: 1}) + of(512) + block(head.Header{Name: "x", Type: 'x', Size: 9}) + (record("path", "c") + of(512))[:512] +
			entry('5', "b", "", "") + ending, []arch.Item{at(1024, file("a", "n")), at(2560, dir("c"))}},
		// Noughts in a file's bytes are no end.
		{"a File of noughts", entry('0', "a", "", ending) + ending, []arch.Item{at(1536, file("a", ending))}},
		// Records are the next member's alone.
		{"records", next(record("path", long)+record("linkpath", link)) + entry('2', "a", "b", "") + entry('2', "c", "d", "") + ending,
			[]arch.Item{at(2048, sym(long, link)), at(2560, sym("c", "d"))}},
		{"records of another key", next(record("mtime", "7")+record("size", "1")) + entry('0', "a", "", "bc") + ending, []arch.Item{at(2048, file("a", "bc"))}},
		{"the last of two records", next(record("path", "b")+record("path", "c")) + entry('5', "a", "", "") + ending, []arch.Item{at(1536, dir("c"))}},
		// Records of all are those of all members behind.
		{"records of all", entry('5', "a", "", "") + all(record("path", "b")) + entry('5', "c", "", "") + entry('5', "d", "", "") + ending,
			[]arch.Item{at(512, dir("a")), at(2048, dir("b")), at(2560, dir("b"))}},
		{"records of all, twice", all(record("path", "a")) + all(record("path", "b")+record("linkpath", "c")) + all("") + entry('2', "d", "e", "") + entry('1', "d", "e", "") + ending,
			[]arch.Item{at(3072, sym("b", "c")), at(3584, hard("b", "c"))}},
		// The next member's stand behind those of all, whichever come first.
		{"both", all(record("path", "a")) + next(record("path", "b")) + entry('5', "c", "", "") + entry('5', "d", "", "") + ending,
			[]arch.Item{at(2560, dir("b")), at(3072, dir("a"))}},
		{"both, of all behind", next(record("path", "b")) + all(record("path", "a")) + entry('5', "c", "", "") + entry('5', "d", "", "") + ending,
			[]arch.Item{at(2560, dir("b")), at(3072, dir("a"))}},
		{"records of all alone", all(record("path", "..")) + ending, nil},
		// Where no records are, none wait.
		{"no records", next("") + entry('5', "a", "", "") + ending, []arch.Item{at(1024, dir("a"))}},
		{"no records, twice", next("") + next("") + next(record("path", "b")) + entry('5', "a", "", "") + ending, []arch.Item{at(2560, dir("b"))}},
		{"no records ahead of the end", next("") + ending, nil},
		{"64 members", strings.Repeat(entry('5', "a", "", ""), 64) + ending, counted(64)},
	} {
		scanned(t, c.what, c.b, c.want, api.OK)
		asWanted(t, c.what, c.b)
	}
}

// counted are so many Dirs.
func counted(n int) []arch.Item {
	var l []arch.Item
	for i := range n {
		l = append(l, at(512*i+512, dir("a")))
	}
	return l
}

// TestScanOfAnOldFile reads a byte 0 as a File's type.
func TestScanOfAnOldFile(t *testing.T) { // P9.2
	b := []byte(entry('0', "a", "", "x"))
	b[156] = 0
	scanned(t, "an old File", summed(b)+filled("x")+ending, []arch.Item{at(1024, file("a", "x"))}, api.OK)
}

// summed is the first block of bytes with its sum.
func summed(b []byte) string {
	copy(b[148:156], "        ")
	sum := 0
	for _, c := range b[:512] {
		sum += int(c)
	}
	copy(b[148:], fmt.Sprintf("%06o\x00", sum))
	return string(b[:512])
}

// turned is a Dir's header that a function has turned, with its sum.
func turned(turn func([]byte)) string {
	b := []byte(entry('5', "a", "", ""))
	turn(b)
	return summed(b)
}

func TestScanErrors(t *testing.T) { // P9.2
	unsummed := "b" + entry('5', "a", "", "")[1:]
	form := turned(func(b []byte) { b[257] = 'x' })
	kind := turned(func(b []byte) { b[156] = '3' })
	below := turned(func(b []byte) { copy(b[100:], "\xff\xff\xff\xff\xff\xff\xff\xff") })
	big := block(head.Header{Name: "a", Type: '0', Size: 4097})
	bigDir := block(head.Header{Name: "a", Type: '5', Size: 1 << 40})
	bigRecords := block(head.Header{Name: "a", Type: 'x', Size: 4097})
	bigAll := block(head.Header{Name: "a", Type: 'g', Size: 1<<63 - 1})
	member, path := entry('5', "a", "", ""), next(record("path", "b"))
	for _, c := range []struct {
		what, b string
		e       api.Errno
	}{
		{"nothing", "", api.ErrEnd}, {"a byte", "\x00", api.ErrEnd}, {"less than a block", unsummed[:511], api.ErrEnd},
		{"one block of noughts", zeros, api.ErrEnd}, {"less than two blocks of noughts", ending[:1023], api.ErrEnd},
		{"half an end, and a block", zeros + member, api.ErrForm}, {"half an end, and a block that is turned", zeros + unsummed, api.ErrForm},
		{"a byte in the second block of noughts", zeros + zeros[:511] + "\x01", api.ErrForm},
		{"a byte behind", ending + "\x00", api.ErrForm}, {"a block behind", ending + zeros, api.ErrForm}, {"a member behind", ending + member + ending, api.ErrForm},
		{"another sum", unsummed, api.ErrSum}, {"a byte 1", zeros[:511] + "\x01", api.ErrForm}, {"no sum", of(512), api.ErrForm},
		{"no ustar", form + ending, api.ErrForm}, {"no type", kind + ending, api.ErrKind}, {"a mode below 0", below + ending, api.ErrBig},
		{"too many bytes of a File", big + of(5*1024) + ending, api.ErrBig}, {"too many bytes of a Dir", bigDir, api.ErrBig},
		{"too many bytes of records", bigRecords, api.ErrBig}, {"too many bytes of records of all", bigAll, api.ErrBig},
		{"bytes that are missing", entry('0', "a", "", "x")[:512], api.ErrEnd}, {"bytes that are not filled up", entry('0', "a", "", "x")[:513], api.ErrEnd},
		{"a block less", entry('0', "a", "", of(513))[:1024], api.ErrEnd}, {"a byte less", entry('0', "a", "", of(512))[:1023], api.ErrEnd},
		{"bytes of a Dir that are missing", entry('5', "a", "", "x")[:512], api.ErrEnd}, {"records that are missing", path[:512], api.ErrEnd},
		{"records of all that are missing", all("x")[:1000], api.ErrEnd},
		{"records, and no more", path, api.ErrEnd},
		{"records that may not be", next("x") + member + ending, api.ErrForm}, {"records of all that may not be", all("x") + member + ending, api.ErrForm},
		{"records that end too early", next("9 a=b\n") + member + ending, api.ErrEnd}, {"records of all that end too early", all("9 a=b\n") + member + ending, api.ErrEnd},
		{"records ahead of the end", path + ending, api.ErrForm}, {"records ahead of half an end", path + zeros, api.ErrEnd},
		{"records ahead of half an end, and a byte", path + zeros + "\x01", api.ErrEnd},
		{"records of all behind those that wait", path + all("") + ending, api.ErrForm},
		{"records twice", path + path + member + ending, api.ErrForm}, {"records twice, the second ones none", path + next("") + member + ending, api.ErrForm},
		{"records twice, the second ones missing", path + path[:512], api.ErrEnd}, {"records twice, the second ones too many", path + bigRecords, api.ErrBig},
		// Those that may not be are told of ahead of those that wait.
		{"records twice, the second ones end too early", path + next("9 a=b\n") + member + ending, api.ErrEnd},
		{"records twice, with others of all between", path + all(record("path", "c")) + path + member + ending, api.ErrForm},
		{"no path", entry('5', "", "", "") + ending, api.ErrPath}, {"a path that may not be", entry('5', "a/", "", "") + ending, api.ErrPath},
		{"a record of a path that may not be", next(record("path", "..")) + member + ending, api.ErrPath},
		{"a record of all of a path that may not be", all(record("path", "")) + member + ending, api.ErrPath},
		{"a link that may not be", entry('1', "a", "/", "") + ending, api.ErrPath}, {"no link", entry('2', "a", "", "") + ending, api.ErrForm},
		{"a link that is too long", next(record("linkpath", of(301))) + entry('2', "a", "", "") + ending, api.ErrBig},
		{"a mode that is too great", block(head.Header{Name: "a", Type: '5', Meta: api.Meta{Mode: 4096}}) + ending, api.ErrBig},
	} {
		scanned(t, c.what, c.b, nil, c.e)
		// The members ahead of it are told.
		ahead := entry('0', "b", "", "x") + next(record("path", "d")) + entry('5', "c", "", "")
		scanned(t, c.what+", behind members", ahead+c.b, []arch.Item{at(1024, file("b", "x")), at(2560, dir("d"))}, c.e)
		asWanted(t, c.what, ahead+c.b)
	}
}

// TestScanMany scans more members than a tree has: an error of the last one is
// told ahead of that.
func TestScanMany(t *testing.T) { // P9.2
	full := strings.Repeat(entry('5', "a", "", ""), 64)
	for _, c := range []struct {
		what, b string
		e       api.Errno
	}{
		{"one more", entry('5', "b", "", "") + ending, api.ErrMany}, {"one more, and no end", entry('5', "b", "", ""), api.ErrMany},
		{"many more", full + ending, api.ErrMany}, {"no end", "", api.ErrEnd},
		{"one more that may not be", entry('5', "..", "", "") + ending, api.ErrPath},
		{"one more that is turned", of(512), api.ErrForm}, {"one more without bytes", entry('0', "b", "", "x")[:512], api.ErrEnd},
		{"one more that is too great", block(head.Header{Name: "a", Type: '0', Size: 4097}), api.ErrBig},
		{"records alone", next(record("path", "b")) + ending, api.ErrForm},
		{"records, and one more", next(record("path", "b")) + entry('5', "b", "", ""), api.ErrMany},
		{"records that may not be", next("x") + entry('5', "b", "", ""), api.ErrForm},
		{"records of all", all(record("path", "b")) + ending, api.OK},
	} {
		scanned(t, "64 members, and "+c.what, full+c.b, counted(64), c.e)
	}
}

// TestCut cuts archives at each byte: the members that are whole are told.
func TestCut(t *testing.T) { // P9.2
	long := longPath(300)
	l := []api.Member{file("a", of(513)), dir(long), sym("s", of(200)), file("b", "")}
	b, e := arch.Lay(l)
	if e != api.OK {
		t.Fatal(e)
	}
	ends := arch.Ends(l)
	for n := range len(b) {
		var want []arch.Item
		for i, end := range ends {
			if end <= n {
				want = append(want, at(end, l[i]))
			}
		}
		scanned(t, fmt.Sprintf("%d of %d bytes", n, len(b)), string(b[:n]), want, api.ErrEnd)
	}
}

// TestEachByteTurned turns each byte of an archive.
func TestEachByteTurned(t *testing.T) { // R1, P9.2
	l := []api.Member{file("a", "bc"), hard(longPath(257), "a"), dir("d")}
	b, e := arch.Lay(l)
	if e != api.OK {
		t.Fatal(e)
	}
	for i := range b {
		kept := b[i]
		for _, c := range []byte{0, '1', 'g', 'x', 0xff, kept + 1} {
			b[i] = c
			asWanted(t, fmt.Sprintf("an archive with a byte %d at %d", c, i), string(b))
		}
		b[i] = kept
	}
}

// pieces are what archives are put together of, and what they may not have.
func pieces() []string {
	return []string{
		entry('5', "a", "", ""), entry('0', "b", "", "bytes"), entry('1', "c", "b", ""), entry('2', "d", "..", "x"), entry('5', "..", "", ""),
		next(record("path", "e")), next(""), next(record("linkpath", "f") + record("path", longPath(260))), next("x"),
		all(record("path", "g")), all(record("linkpath", "/")), all(""), all("6 a=b"),
		zeros, ending, "\x00", of(512), block(head.Header{Name: "a", Type: '0', Size: 4097}), entry('0', "b", "", of(600))[:1024],
	}
}

// TestPieces puts pieces together, each four of them.
func TestPieces(t *testing.T) { // P9.2, P9.4
	l := append(pieces(), "")
	told := map[api.Errno]int{}
	for _, a := range l {
		for _, b := range l {
			for _, c := range l {
				for _, d := range l {
					s := a + b + c + d
					want, wantErr := scanWanted(s)
					if got, e := arch.Scan([]byte(s)); !same(got, want) || e != wantErr {
						t.Fatalf("Scan of %.3000q = %s, %d, not %s, %d", s, shown(got), e, shown(want), wantErr)
					}
					told[wantErr]++
				}
			}
		}
	}
	for _, e := range []api.Errno{api.OK, api.ErrForm, api.ErrEnd, api.ErrPath, api.ErrBig} {
		if told[e] < 100 {
			t.Errorf("%d is told only %d times", e, told[e])
		}
	}
}

// TestManyPieces puts more of them together.
func TestManyPieces(t *testing.T) { // P9.2, P9.4
	r := rand.New(rand.NewSource(9))
	l := pieces()
	told := map[api.Errno]int{}
	for range 800 {
		s := ""
		for range r.Intn(90) {
			if r.Intn(40) == 0 {
				s += l[r.Intn(len(l))]
			} else {
				s += l[r.Intn(3)]
			}
		}
		asWanted(t, "pieces", s+ending)
		_, e := scanWanted(s + ending)
		told[e]++
	}
	for _, e := range []api.Errno{api.OK, api.ErrForm, api.ErrEnd, api.ErrPath, api.ErrMany} {
		if told[e] < 10 {
			t.Errorf("%d is told only %d times", e, told[e])
		}
	}
}

func TestLaidIsScanned(t *testing.T) { // P9.3
	for i, l := range lists() {
		again(t, fmt.Sprintf("list %d", i), l)
	}
}

// TestScannedIsLaid lays anew what is scanned of archives that are not as they
// are laid here.
func TestScannedIsLaid(t *testing.T) { // P9.4
	long := longPath(257)
	for _, b := range []string{
		all(record("path", "a")) + entry('5', "b", "", of(513)) + entry('0', "b", "", of(513)),
		all(record("linkpath", long)) + entry('1', "b", "", "") + entry('2', "b", "", ""),
		next(record("path", "a")+record("mtime", "1.5")) + entry('5', of(100), of(100), ""),
		next(record("path", long)) + all(record("path", "b")) + entry('0', "x", "y", ""),
		next("") + entry('0', "x", "y", "z"),
	} {
		items, e := arch.Scan([]byte(b + ending))
		if len(items) == 0 || e != api.OK {
			t.Errorf("Scan: %d members, %d", len(items), e)
		}
		again(t, "what was scanned", membersOf(items))
	}
}

// TestLaidForOthers reads archives by the library's.
func TestLaidForOthers(t *testing.T) { // P9.1
	for i, l := range lists() {
		b, e := arch.Lay(l)
		if e != api.OK {
			t.Fatalf("Lay of list %d: %d", i, e)
		}
		r := tar.NewReader(bytes.NewReader(b))
		for _, m := range l {
			h, err := r.Next()
			if h == nil {
				t.Fatalf("list %d, %q: %v", i, m.Path, err)
			}
			data, err := io.ReadAll(r)
			if h.Name != m.Path || h.Linkname != m.Link || !bytes.Equal(data, m.Data) || h.Typeflag != memb.Type(m.Kind) || err != nil {
				t.Errorf("list %d, %q is read as %+v, %v", i, m.Path, h, err)
			}
		}
		if _, err := r.Next(); err != io.EOF {
			t.Errorf("behind list %d stands something: %v", i, err)
		}
	}
}

// TestScanOfOthers scans an archive that the library laid.
func TestScanOfOthers(t *testing.T) { // P9.2
	var out bytes.Buffer
	w := tar.NewWriter(&out)
	long := longPath(290)
	want := []api.Member{dir("top"), file("top/a", of(600)), hard("top/b", "top/a"), sym("top/c", of(150)), file(long, "x"), dir("\u00e4")}
	if err := w.WriteHeader(&tar.Header{Typeflag: tar.TypeXGlobalHeader, Name: "all", PAXRecords: map[string]string{"comment": "of all"}}); err != nil {
		t.Fatal(err)
	}
	for i := range want {
		m := &want[i]
		m.Meta = api.Meta{Mode: 0o640, Uid: 1000, Gid: int64(i), Mtime: 1700000000}
		h := &tar.Header{Format: tar.FormatPAX, Typeflag: memb.Type(m.Kind), Name: m.Path, Linkname: m.Link, Size: int64(len(m.Data)),
			Mode: m.Meta.Mode, Uid: 1000, Gid: i, ModTime: time.Unix(m.Meta.Mtime, 0)}
		if err := w.WriteHeader(h); err != nil {
			t.Fatal(err)
		}
		if _, err := w.Write(m.Data); err != nil {
			t.Fatal(err)
		}
	}
	if err := w.Close(); err != nil {
		t.Fatal(err)
	}
	l, e := arch.Parse(out.Bytes())
	if !slices.EqualFunc(l, want, memb.Same) || e != api.OK {
		t.Errorf("Parse = %+v, %d, not %+v", l, e, want)
	}
}

func TestNothingIsWrittenOrShared(t *testing.T) { // R3, R4
	data := make([]byte, 3, 2000)
	copy(data, "abc")
	l := []api.Member{{Path: "a", Kind: api.File, Data: data}, file("b", "def")}
	b, e := arch.Lay(l)
	ends := arch.Ends(l)
	if e != api.OK || string(data[:2000]) != "abc"+strings.Repeat("\x00", 1997) {
		t.Fatalf("Lay turned its bytes, or %d", e)
	}
	kept := bytes.Clone(b)
	clear(data)
	if !bytes.Equal(b, kept) {
		t.Errorf("an archive hangs on what is written into its members afterwards")
	}
	items, e := arch.Scan(b)
	members, _ := arch.Parse(b)
	if !bytes.Equal(b, kept) || len(items) != 2 || len(members) != 2 || e != api.OK {
		t.Fatalf("Scan turned its bytes, or %d", e)
	}
	clear(b)
	if string(items[0].Member.Data) != "abc" || string(members[1].Data) != "def" {
		t.Errorf("members hang on what is written into the archive afterwards")
	}
	clear(items[0].Member.Data[:cap(items[0].Member.Data)])
	clear(members[0].Data[:cap(members[0].Data)])
	if string(items[1].Member.Data) != "def" || string(members[1].Data) != "def" {
		t.Errorf("members share their bytes")
	}
	clear(ends)
	l[0].Data = []byte("abc")
	if again, _ := arch.Lay(l); !bytes.Equal(again, kept) || !slices.Equal(arch.Ends(l), []int{1024, 2048}) {
		t.Errorf("answers share their memory")
	}
}

// FuzzScan scans any bytes, as they are, and as a header with its sum.
func FuzzScan(f *testing.F) { // R1, P9.2, P9.4
	for _, s := range pieces() {
		f.Add([]byte(s))
		f.Add([]byte(s + ending))
	}
	f.Fuzz(func(t *testing.T, b []byte) {
		asWanted(t, "bytes", string(b))
		if len(b) < 512 {
			return
		}
		rest := string(b[512:])
		asWanted(t, "bytes with a sum", summed(b)+rest+ending)
	})
}
