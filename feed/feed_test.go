package feed_test

import (
	"archive/tar"
	"bytes"
	"fmt"
	"math/rand"
	"runtime"
	"slices"
	"strings"
	"testing"

	"thwart/api"
	"thwart/arch"
	"thwart/feed"
	"thwart/head"
	"thwart/memb"
	"thwart/recs"
)

// zeros is a block of noughts; ending are the two of them that end an archive.
var (
	zeros  = strings.Repeat("\x00", 512)
	ending = zeros + zeros
)

// of is a text of n signs.
func of(n int) string {
	return strings.Repeat("n", n)
}

// longPath is a path of n bytes that no header has room for, from 257 bytes on.
func longPath(n int) string {
	b := bytes.Repeat([]byte("p"), n)
	for at := 50; at < n-1; at += 51 {
		b[at] = '/'
	}
	return string(b)
}

// filled has bytes 0 behind, up to a whole block.
func filled(s string) string {
	return s + strings.Repeat("\x00", (512-len(s)%512)%512)
}

// block is a header's block; head's own tests look at it.
func block(h head.Header) string {
	b, e := head.Lay(h)
	if e != api.OK {
		panic(fmt.Sprintf("Lay(%+v): %d", h, e))
	}
	return string(b)
}

// entry is a header, and bytes behind it, filled up.
func entry(c byte, name, link, data string) string {
	return block(head.Header{Name: name, Type: c, Link: link, Size: int64(len(data))}) + filled(data)
}

// record lays one, by the least number that tells how many bytes it makes.
func record(key, value string) string {
	for n := len("1 =\n") + len(key) + len(value); ; n++ {
		if s := fmt.Sprintf("%d %s=%s\n", n, key, value); len(s) == n {
			return s
		}
	}
}

// next and all are records of the next member, and of all behind.
func next(records string) string { return entry('x', "pax", "", records) }
func all(records string) string  { return entry('g', "all", "", records) }

// dir, file, hard and sym are members.
func dir(path string) api.Member { return api.Member{Path: path, Kind: api.Dir} }
func file(path, data string) api.Member {
	return api.Member{Path: path, Kind: api.File, Data: []byte(data)}
}
func hard(path, link string) api.Member {
	return api.Member{Path: path, Kind: api.Hard, Link: link}
}
func sym(path, link string) api.Member {
	return api.Member{Path: path, Kind: api.Sym, Link: link}
}

// laid is an archive.
func laid(l ...api.Member) string {
	b, e := arch.Lay(l)
	if e != api.OK {
		panic(fmt.Sprintf("Lay: %d", e))
	}
	return string(b)
}

// summed is the first block of bytes with its sum.
func summed(b []byte) string {
	copy(b[148:156], "        ")
	sum := 0
	for _, c := range b[:512] {
		sum += int(c)
	}
	copy(b[148:], fmt.Sprintf("%06o\x00", sum))
	return string(b[:512])
}

// turned is a Dir's header that a function has turned, with its sum.
func turned(turn func([]byte)) string {
	b := []byte(entry('5', "a", "", ""))
	turn(b)
	return summed(b)
}

// shown are members as a failure tells them.
func shown(l []api.Member) string {
	s := ""
	for _, m := range l {
		s += fmt.Sprintf(" {%.40q (%d), kind %d, %v, %.40q (%d), %d bytes}", m.Path, len(m.Path), m.Kind, m.Meta, m.Link, len(m.Link), len(m.Data))
	}
	return fmt.Sprintf("%d:%s", len(l), s)
}

func same(a, b []api.Member) bool {
	return slices.EqualFunc(a, b, memb.Same)
}

// facts are all that a feed tells of itself.
type facts struct {
	done            bool
	close           api.Errno
	mark, count, at int
	held            int
}

func factsOf(f *feed.Feed) facts {
	return facts{done: f.Done(), close: f.Close(), mark: f.Mark(), count: f.Count(), at: f.At(), held: f.Held()}
}

// breaks tells whether a feed is broken at that error of a scan.
func breaks(e api.Errno) bool {
	return e != api.OK && e != api.ErrEnd
}

// heldWanted is how many bytes behind the last whole entry stand; none, if what
// they are is not to be scanned any more.
func heldWanted(b []byte) int {
	for len(b) >= 512 {
		if string(b[:512]) == zeros {
			if len(b) < 1024 {
				return len(b)
			}
			return 0
		}
		h, e := head.Parse(b[:512])
		if e != api.OK || h.Size > 4096 {
			return 0
		}
		needs := 512 + (int(h.Size)+511)/512*512
		if len(b) < needs {
			return len(b)
		}
		if _, e := recs.Parse(b[512 : 512+h.Size]); e != api.OK && (h.Type == 'x' || h.Type == 'g') {
			return 0
		}
		b = b[needs:]
	}
	return len(b)
}

// wanted are the members of all bytes that came, and what a feed tells of itself
// then, if a scan of them is right.
func wanted(b []byte) ([]api.Member, facts) {
	items, e := arch.Scan(b)
	var l []api.Member
	for _, x := range items {
		l = append(l, x.Member)
	}
	w := facts{done: e == api.OK, close: e, count: len(items), at: len(b)}
	if len(items) > 0 {
		w.mark = items[len(items)-1].End
	}
	if !breaks(e) {
		w.held = heldWanted(b)
	}
	return l, w
}

// fed writes bytes in pieces that end at the cuts, and at their own end, and
// looks behind each whether the feed tells what a scan of all that came does.
func fed(t *testing.T, what, b string, cuts []int) {
	t.Helper()
	f := feed.New()
	came, told := 0, 0
	var broke api.Errno
	var last facts
	for _, cut := range append(slices.Clone(cuts), len(b)) {
		l, e := f.Write([]byte(b[came:cut]))
		came = cut
		got := factsOf(f)
		if broke != api.OK {
			if len(l) != 0 || e != broke || got != last {
				t.Fatalf("%s, broken by %d: Write up to %d = %s, %d; %+v, not %+v", what, broke, cut, shown(l), e, got, last)
			}
			continue
		}
		members, want := wanted([]byte(b[:cut]))
		if breaks(want.close) {
			broke, last = want.close, want
		}
		if !same(l, members[told:]) || e != broke || got != want {
			t.Fatalf("%s: Write up to %d = %s, %d; %+v, not %s, %d; %+v", what, cut, shown(l), e, got, shown(members[told:]), broke, want)
		}
		told = len(members)
	}
}

// each are the places behind every n bytes.
func each(b string, n int) []int {
	var cuts []int
	for at := n; at < len(b); at += n {
		cuts = append(cuts, at)
	}
	return cuts
}

// random are up to n places, some of them twice.
func random(r *rand.Rand, b string, n int) []int {
	var cuts []int
	for range r.Intn(n + 1) {
		cuts = append(cuts, r.Intn(len(b)+1))
	}
	slices.Sort(cuts)
	return cuts
}

// sizes are lengths of pieces about those that an archive is made of.
var sizes = []int{3, 64, 255, 256, 257, 511, 512, 513, 1000, 1023, 1024, 1025, 4607, 4608, 4609, 5120, 1 << 20}

// fedInManyWays writes bytes whole, and in pieces of each size.
func fedInManyWays(t *testing.T, what, b string) {
	t.Helper()
	for _, n := range sizes {
		// Behind each piece all that came is scanned: long bytes take no short ones.
		if n >= len(b)/250 {
			fed(t, fmt.Sprintf("%s, %d at once", what, n), b, each(b, n))
		}
	}
	r := rand.New(rand.NewSource(int64(len(b))))
	for range 5 {
		fed(t, what+", cut by chance", b, random(r, b, 12))
	}
}

// archives are bytes that are archives, each with its name.
func archives() map[string]string {
	long, link := longPath(300), of(300)
	many := ""
	for i := range 64 {
		many += entry('0', fmt.Sprintf("f%d", i), "", of(i*7))
	}
	return map[string]string{
		"no members":         ending,
		"a Dir":              laid(dir("a")),
		"a File":             laid(file("a", "x")),
		"a File of no bytes": laid(file("a", "")),
		"all kinds":          laid(dir("a"), file("a/b", of(513)), hard("a/c", "a/b"), sym("a/d", "../x")),
		"long texts":         laid(dir(long), hard(long, longPath(257)), sym("s", link), sym(long, link), file(long, of(512))),
		"all bytes of Files": laid(file("a", of(4096)), file("b", of(4096)), file("c", of(4095))),
		"Files of noughts":   laid(file("a", ending), file("b", "\x00"), dir("c")),
		"64 members":         many + ending,
		"bytes of others":    entry('5', "a", "", of(513)) + entry('1', "b", "a", "x") + entry('2', "c", "a", ending) + ending,
		"what fills up": block(head.Header{Name: "a", Type: '0', Size: 1}) + of(512) + block(head.Header{Name: "x", Type: 'x', Size: 9}) + (record("path", "c") + of(512))[:512] +
			entry('5', "b", "", "") + ending,
		"an old File":            turned(func(b []byte) { b[156] = 0 }) + ending,
		"records":                next(record("path", long)+record("linkpath", link)) + entry('2', "a", "b", "") + entry('2', "c", "d", "") + ending,
		"records of another key": next(record("mtime", "7")+record("size", "1")) + entry('0', "a", "", "bc") + ending,
		"records of all":         entry('5', "a", "", "") + all(record("path", "b")) + entry('5', "c", "", "") + entry('5', "d", "", "") + ending,
		"records of all, twice": all(record("path", "a")+record("linkpath", "x")) + entry('2', "d", "e", "") + all(record("linkpath", "c")+record("key", "c")) + entry('2', "d", "e", "") +
			all(record("path", "f")+record("path", "g")) + entry('1', "d", "e", "") + ending,
		"both":                        all(record("path", "a")) + next(record("path", "b")) + entry('5', "c", "", "") + entry('5', "d", "", "") + ending,
		"both, of all behind":         next(record("path", "b")) + all(record("path", "a")) + entry('5', "c", "", "") + entry('5', "d", "", "") + ending,
		"both, of another key":        all(record("path", "a")) + next(record("linkpath", "b")) + entry('1', "c", "d", "") + entry('1', "d", "e", "") + ending,
		"records of all alone":        all(record("path", "..")) + ending,
		"no records, twice":           next("") + next("") + next(record("path", "b")) + entry('5', "a", "", "") + ending,
		"no records ahead of the end": next("") + ending,
		"records of 4096 bytes":       next(record("a", of(1991))+record("b", of(1991))+record("path", "c")+record("comment", of(67))) + entry('5', "a", "", "") + ending,
	}
}

// refusals are bytes that break off, or may not be, each with its name, and what
// a scan answers.
func refusals() map[string]refusal {
	unsummed := "b" + entry('5', "a", "", "")[1:]
	big := block(head.Header{Name: "a", Type: '0', Size: 4097})
	member, path := entry('5', "a", "", ""), next(record("path", "b"))
	return map[string]refusal{
		"nothing":                                   {"", api.ErrEnd},
		"less than a block":                         {unsummed[:511], api.ErrEnd},
		"half a member":                             {member[:256], api.ErrEnd},
		"one block of noughts":                      {zeros, api.ErrEnd},
		"less than two blocks of noughts":           {ending[:1023], api.ErrEnd},
		"half an end, and a block":                  {zeros + member, api.ErrForm},
		"half an end, and less":                     {zeros + member[:511], api.ErrEnd},
		"a byte in the second block of noughts":     {zeros + zeros[:511] + "\x01", api.ErrForm},
		"a byte behind":                             {ending + "\x00", api.ErrForm},
		"a block behind":                            {ending + zeros, api.ErrForm},
		"a member behind":                           {ending + member + ending, api.ErrForm},
		"another sum":                               {unsummed + ending, api.ErrSum},
		"a byte 1":                                  {zeros[:511] + "\x01", api.ErrForm},
		"no ustar":                                  {turned(func(b []byte) { b[257] = 'x' }) + ending, api.ErrForm},
		"no type":                                   {turned(func(b []byte) { b[156] = '3' }) + ending, api.ErrKind},
		"a mode below 0":                            {turned(func(b []byte) { copy(b[100:], "\xff\xff\xff\xff\xff\xff\xff\xff") }) + ending, api.ErrBig},
		"too many bytes":                            {big + of(5*1024) + ending, api.ErrBig},
		"too many bytes, of which none come":        {big, api.ErrBig},
		"too many bytes of a Dir":                   {block(head.Header{Name: "a", Type: '5', Size: 1 << 40}), api.ErrBig},
		"too many bytes of records":                 {block(head.Header{Name: "a", Type: 'x', Size: 4097}), api.ErrBig},
		"too many bytes of records of all":          {block(head.Header{Name: "a", Type: 'g', Size: 1<<63 - 1}), api.ErrBig},
		"bytes that are missing":                    {entry('0', "a", "", "x")[:512], api.ErrEnd},
		"bytes that are not filled up":              {entry('0', "a", "", "x")[:1023], api.ErrEnd},
		"bytes of a path that may not be":           {entry('0', "..", "", of(4096)), api.ErrPath},
		"missing bytes of a path that may not be":   {entry('0', "..", "", of(4096))[:4607], api.ErrEnd},
		"records that may not be":                   {next("x") + member + ending, api.ErrForm},
		"records of all that may not be":            {all("x") + member + ending, api.ErrForm},
		"records ahead of the end":                  {path + ending, api.ErrForm},
		"records ahead of half an end":              {path + zeros, api.ErrEnd},
		"records of all behind those that wait":     {path + all("") + ending, api.ErrForm},
		"records twice":                             {path + path + member + ending, api.ErrForm},
		"records of another key twice":              {next(record("a", "b")) + next(record("a", "b")) + member + ending, api.ErrForm},
		"records of another key ahead of the end":   {next(record("a", "b")) + ending, api.ErrForm},
		"records twice, the second ones none":       {path + next("") + member + ending, api.ErrForm},
		"records twice, the second ones missing":    {path + path[:1023], api.ErrEnd},
		"a path that may not be":                    {entry('5', "a/", "", "") + ending, api.ErrPath},
		"a record of a path that may not be":        {next(record("path", "..")) + member + ending, api.ErrPath},
		"a record of all of a path that may not be": {all(record("path", "")) + member + ending, api.ErrPath},
		"a link that may not be":                    {entry('1', "a", "/", "") + ending, api.ErrPath},
		"no link":                                   {entry('2', "a", "", "") + ending, api.ErrForm},
		"a link that is too long":                   {next(record("linkpath", of(301))) + entry('2', "a", "", "") + ending, api.ErrBig},
		"a mode that is too great":                  {block(head.Header{Name: "a", Type: '5', Meta: api.Meta{Mode: 4096}}) + ending, api.ErrBig},
	}
}

type refusal struct {
	b string
	e api.Errno
}

func TestNew(t *testing.T) { // P10.1, P10.2
	f := feed.New()
	for range 3 {
		if got, want := factsOf(f), (facts{close: api.ErrEnd}); got != want {
			t.Errorf("a feed that got no byte: %+v", got)
		}
		for _, p := range [][]byte{nil, {}} {
			if l, e := f.Write(p); len(l) != 0 || e != api.OK {
				t.Errorf("Write of nothing = %s, %d", shown(l), e)
			}
		}
	}
	if f == feed.New() {
		t.Error("two feeds are one")
	}
}

// TestNobodysFeed asks feeds that New did not give.
func TestNobodysFeed(t *testing.T) { // R6, P10.2
	for _, f := range []*feed.Feed{nil, new(feed.Feed), {}} {
		for range 2 {
			for _, p := range []string{"", "x", entry('5', "a", "", ""), laid(dir("a")), of(10000)} {
				if l, e := f.Write([]byte(p)); l != nil || e != api.ErrNil {
					t.Errorf("Write = %s, %d, not ErrNil", shown(l), e)
				}
				if got, want := factsOf(f), (facts{close: api.ErrNil}); got != want {
					t.Errorf("a feed that New did not give: %+v", got)
				}
			}
		}
	}
}

// TestStepByStep tells in full what pieces are answered by.
func TestStepByStep(t *testing.T) { // P10.1, P10.2
	long := longPath(300)
	records, header, data := next(record("path", long)), block(head.Header{Name: "b", Type: '0', Size: 513}), of(513)+strings.Repeat("\x00", 511)
	f := feed.New()
	for i, s := range []struct {
		p    string
		want []api.Member
		e    api.Errno
		facts
	}{
		{entry('5', "a", "", ""), []api.Member{dir("a")}, 0, facts{close: api.ErrEnd, mark: 512, count: 1, at: 512}},
		{"", nil, 0, facts{close: api.ErrEnd, mark: 512, count: 1, at: 512}},
		{records[:511], nil, 0, facts{close: api.ErrEnd, mark: 512, count: 1, at: 1023, held: 511}},
		// The header's block is held, till its bytes are there.
		{records[511:512], nil, 0, facts{close: api.ErrEnd, mark: 512, count: 1, at: 1024, held: 512}},
		{records[512:1023], nil, 0, facts{close: api.ErrEnd, mark: 512, count: 1, at: 1535, held: 1023}},
		{records[1023:], nil, 0, facts{close: api.ErrEnd, mark: 512, count: 1, at: 1536}},
		{header + data[:1], nil, 0, facts{close: api.ErrEnd, mark: 512, count: 1, at: 2049, held: 513}},
		{data[1:1023], nil, 0, facts{close: api.ErrEnd, mark: 512, count: 1, at: 3071, held: 1535}},
		// One byte more makes this whole, and three more members are.
		{data[1023:] + entry('1', "c", "a", "") + entry('2', "d", "e", "x") + header + data + zeros[:7],
			[]api.Member{file(long, of(513)), hard("c", "a"), sym("d", "e"), file("b", of(513))}, 0, facts{close: api.ErrEnd, mark: 6144, count: 5, at: 6151, held: 7}},
		{zeros[7:], nil, 0, facts{close: api.ErrEnd, mark: 6144, count: 5, at: 6656, held: 512}},
		{zeros[:511], nil, 0, facts{close: api.ErrEnd, mark: 6144, count: 5, at: 7167, held: 1023}},
		{zeros[:1], nil, 0, facts{done: true, mark: 6144, count: 5, at: 7168}},
		{"", nil, 0, facts{done: true, mark: 6144, count: 5, at: 7168}},
		{"\x00", nil, api.ErrForm, facts{close: api.ErrForm, mark: 6144, count: 5, at: 7169}},
		{"\x00", nil, api.ErrForm, facts{close: api.ErrForm, mark: 6144, count: 5, at: 7169}},
		{"", nil, api.ErrForm, facts{close: api.ErrForm, mark: 6144, count: 5, at: 7169}},
	} {
		l, e := f.Write([]byte(s.p))
		if got := factsOf(f); !same(l, s.want) || e != s.e || got != s.facts {
			t.Errorf("piece %d: %s, %d, %+v, not %s, %d, %+v", i, shown(l), e, got, shown(s.want), s.e, s.facts)
		}
	}
}

// TestBroken tells members ahead of an error, and of a feed that it broke, what
// came with the piece that did.
func TestBroken(t *testing.T) { // P10.1, P10.2
	unsummed := "b" + entry('5', "a", "", "")[1:]
	if l, e := feed.New().Write([]byte(unsummed)); len(l) != 0 || e != api.ErrSum {
		t.Errorf("Write of what is turned = %s, %d, not ErrSum", shown(l), e)
	}
	f := feed.New()
	p := entry('5', "a", "", "") + entry('0', "b", "", "c") + unsummed + entry('5', "d", "", "") + "more"
	want := facts{close: api.ErrSum, mark: 1536, count: 2, at: len(p)}
	if l, e := f.Write([]byte(p)); !same(l, []api.Member{dir("a"), file("b", "c")}) || e != api.ErrSum || factsOf(f) != want {
		t.Errorf("Write of two members and what is turned = %s, %d; %+v, not %+v", shown(l), e, factsOf(f), want)
	}
	for _, p := range []string{"", "x", entry('5', "e", "", ""), ending, of(5000)} {
		if l, e := f.Write([]byte(p)); l != nil || e != api.ErrSum || factsOf(f) != want {
			t.Errorf("Write to a broken one = %s, %d; %+v, not %+v", shown(l), e, factsOf(f), want)
		}
	}
}

// TestTornRecords feeds records that tell more bytes than they have: a scan
// answers ErrEnd, at which no feed breaks. Nothing behind is told, nor held.
func TestTornRecords(t *testing.T) { // P10.1, P10.2, P10.3, P10.4
	for _, torn := range []string{next("9 a=b\n"), all("9 a=b\n"), all(record("path", "b") + "9999 a=b\n"), next(record("path", "b")) + next("9 a=b\n")} {
		b := entry('5', "a", "", "") + torn + strings.Repeat(entry('5', "c", "", ""), 100) + ending + "\x00" + of(5000)
		fedInManyWays(t, "records that break off", b)
		f := feed.New()
		if l, e := f.Write([]byte(b)); !same(l, []api.Member{dir("a")}) || e != api.OK {
			t.Errorf("Write = %s, %d", shown(l), e)
		}
		for _, p := range []string{"", entry('5', "c", "", ""), of(5000), ending, laid(dir("d"))} {
			l, e := f.Write([]byte(p))
			b += p
			if got, want := factsOf(f), (facts{close: api.ErrEnd, mark: 512, count: 1, at: len(b)}); len(l) != 0 || e != api.OK || got != want {
				t.Errorf("Write behind them = %s, %d; %+v, not %+v", shown(l), e, got, want)
			}
		}
	}
}

// TestBehindTheEnd writes more, with the end, and behind it.
func TestBehindTheEnd(t *testing.T) { // P10.1, P10.2
	b := laid(dir("a"), file("b", "c"))
	for _, more := range []string{"\x00", "x", zeros, ending, entry('5', "d", "", ""), b} {
		f := feed.New()
		l, e := f.Write([]byte(b + more))
		want := facts{close: api.ErrForm, mark: 1536, count: 2, at: len(b) + len(more)}
		if !same(l, []api.Member{dir("a"), file("b", "c")}) || e != api.ErrForm || factsOf(f) != want {
			t.Errorf("Write with %d bytes behind the end = %s, %d; %+v, not %+v", len(more), shown(l), e, factsOf(f), want)
		}
		f = feed.New()
		if l, e := f.Write([]byte(b)); len(l) != 2 || e != api.OK || !f.Done() || f.Close() != api.OK {
			t.Errorf("Write = %s, %d; %+v", shown(l), e, factsOf(f))
		}
		if l, e := f.Write([]byte(more)); len(l) != 0 || e != api.ErrForm || factsOf(f) != want {
			t.Errorf("Write of %d bytes behind the end = %s, %d; %+v, not %+v", len(more), shown(l), e, factsOf(f), want)
		}
	}
}

// TestMany feeds more members than a tree has.
func TestMany(t *testing.T) { // P10.1, P10.3
	full := strings.Repeat(entry('5', "a", "", ""), 64)
	for _, c := range []struct {
		what, b string
		e       api.Errno
	}{
		{"the end", ending, api.OK}, {"no end", "", api.ErrEnd}, {"records of all", all(record("path", "b")) + ending, api.OK},
		{"one more", entry('5', "b", "", "") + ending, api.ErrMany}, {"many more", full + ending, api.ErrMany},
		{"one more that may not be", entry('5', "..", "", "") + ending, api.ErrPath},
		{"one more that is turned", of(512), api.ErrForm}, {"one more without bytes", entry('0', "b", "", "x")[:512], api.ErrEnd},
		{"one more that is too great", block(head.Header{Name: "a", Type: '0', Size: 4097}), api.ErrBig},
		{"records alone", next(record("path", "b")) + ending, api.ErrForm},
		{"records, and one more", next(record("path", "b")) + entry('5', "b", "", ""), api.ErrMany},
	} {
		f := feed.New()
		l, e := f.Write([]byte(full + c.b))
		if len(l) != 64 || f.Count() != 64 || f.Mark() != 64*512 || f.Close() != c.e || e != api.OK && e != c.e {
			t.Errorf("64 members, and %s: %d, %d; %+v, not %d", c.what, len(l), e, factsOf(f), c.e)
		}
		fedInManyWays(t, "64 members, and "+c.what, full+c.b)
	}
}

// TestByteByByte feeds archives, and what is refused, a byte at a time.
func TestByteByByte(t *testing.T) { // P10.1, P10.2, P10.3
	for what, b := range archives() {
		if len(b) < 8000 {
			fed(t, what, b, each(b, 1))
		}
	}
	for what, r := range refusals() {
		fed(t, what, r.b, each(r.b, 1))
		ahead := entry('0', "b", "", "x") + r.b
		fed(t, what+", behind a member", ahead, each(ahead, 1))
	}
}

func TestArchives(t *testing.T) { // P10.3
	for what, b := range archives() {
		if _, e := arch.Scan([]byte(b)); e != api.OK {
			t.Errorf("%s: a scan answers %d", what, e)
		}
		fedInManyWays(t, what, b)
		for _, more := range []string{"\x00", zeros, ending, b} {
			fedInManyWays(t, what+", and more", b+more)
		}
	}
}

func TestRefusals(t *testing.T) { // P10.1, P10.2, P10.3
	for what, r := range refusals() {
		if _, e := arch.Scan([]byte(r.b)); e != r.e {
			t.Errorf("%s: a scan answers %d, not %d", what, e, r.e)
		}
		fedInManyWays(t, what, r.b)
		fedInManyWays(t, what+", behind members", entry('0', "b", "", "x")+next(record("path", "d"))+entry('5', "c", "", "")+r.b)
		f := feed.New()
		want := r.e
		if want == api.ErrEnd {
			want = api.OK
		}
		if l, e := f.Write([]byte(r.b)); len(l) != 0 || e != want || f.Close() != r.e {
			t.Errorf("%s: Write = %s, %d; Close %d, not %d", what, shown(l), e, f.Close(), r.e)
		}
	}
}

// TestCutOnce cuts archives in two, at each byte.
func TestCutOnce(t *testing.T) { // P10.3
	for what, b := range archives() {
		if len(b) > 8000 {
			continue
		}
		members, want := wanted([]byte(b))
		for cut := range len(b) + 1 {
			f := feed.New()
			first, _ := f.Write([]byte(b[:cut]))
			second, e := f.Write([]byte(b[cut:]))
			if got := factsOf(f); !same(slices.Concat(first, second), members) || e != api.OK || got != want {
				t.Errorf("%s, cut at %d: %s and %s, %d; %+v, not %+v", what, cut, shown(first), shown(second), e, got, want)
			}
		}
	}
}

// TestEachByteTurned turns each byte of an archive.
func TestEachByteTurned(t *testing.T) { // R1, P10.3
	b := []byte(laid(file("a", "bc"), hard(longPath(257), "a"), dir("d")))
	for i := range b {
		kept := b[i]
		for _, c := range []byte{0, '1', 'g', 0xff, kept + 1} {
			b[i] = c
			what := fmt.Sprintf("an archive with a byte %d at %d", c, i)
			fed(t, what, string(b), each(string(b), 256))
			fed(t, what, string(b), []int{i, i + 1})
		}
		b[i] = kept
	}
}

// pieces are what archives are put together of, and what they may not have.
func pieces() []string {
	return []string{
		entry('5', "a", "", ""), entry('0', "b", "", "bytes"), entry('1', "c", "b", ""), entry('2', "d", "..", "x"), entry('5', "..", "", ""),
		next(record("path", "e")), next(""), next(record("linkpath", "f") + record("path", longPath(260))), next("x"), next("9 a=b\n"),
		all(record("path", "g")), all(record("linkpath", "/")), all(record("linkpath", "h") + record("key", "h")), all(""), all("6 a=b"),
		zeros, ending, "\x00", of(512), block(head.Header{Name: "a", Type: '0', Size: 4097}), entry('0', "b", "", of(600))[:1024],
	}
}

// TestPieces puts pieces of archives together, and cuts them elsewhere.
func TestPieces(t *testing.T) { // P10.3
	r := rand.New(rand.NewSource(10))
	l := append(pieces(), "")
	told := map[api.Errno]int{}
	for range 20000 {
		s := ""
		for range r.Intn(6) {
			s += l[r.Intn(len(l))]
		}
		if r.Intn(2) == 0 {
			s += ending
		}
		fed(t, "pieces", s, random(r, s, 6))
		_, e := arch.Scan([]byte(s))
		told[e]++
	}
	for _, e := range []api.Errno{api.OK, api.ErrForm, api.ErrEnd, api.ErrPath, api.ErrBig} {
		if told[e] < 100 {
			t.Errorf("%d is told only %d times", e, told[e])
		}
	}
}

// TestManyPieces puts more of them together.
func TestManyPieces(t *testing.T) { // P10.3
	r := rand.New(rand.NewSource(11))
	l := pieces()
	told := map[api.Errno]int{}
	for range 400 {
		s := ""
		for range r.Intn(90) {
			if r.Intn(40) == 0 {
				s += l[r.Intn(len(l))]
			} else {
				s += l[r.Intn(3)]
			}
		}
		s += ending
		fed(t, "many pieces", s, random(r, s, 20))
		fed(t, "many pieces, in segments", s, each(s, 256))
		_, e := arch.Scan([]byte(s))
		told[e]++
	}
	for _, e := range []api.Errno{api.OK, api.ErrForm, api.ErrEnd, api.ErrPath, api.ErrMany} {
		if told[e] < 10 {
			t.Errorf("%d is told only %d times", e, told[e])
		}
	}
}

// TestHeld feeds what is held the longest: entries of the most bytes.
func TestHeld(t *testing.T) { // P10.2, P10.4
	most := next(record("a", of(1991))+record("b", of(1991))+record("path", "c")+record("comment", of(67))) + entry('0', "a", "", of(4096)) + all(strings.Repeat(record("k", of(58)), 64)) +
		entry('5', "d", "", of(4096)) + ending
	if want := 4*4608 + 1024; len(most) != want {
		t.Fatalf("there are %d bytes, not %d", len(most), want)
	}
	for _, n := range []int{1, 2, 3, 5, 511, 512, 513, 4607, 4608, 4609, len(most)} {
		f := feed.New()
		greatest := 0
		for p := range slices.Chunk([]byte(most), n) {
			if _, e := f.Write(p); e != api.OK {
				t.Fatalf("%d at once: %d", n, e)
			}
			if got := f.Held(); f.At() <= 4*4608 && got != f.At()%4608 {
				t.Errorf("%d at once: %d bytes are held of %d", n, got, f.At())
			}
			greatest = max(greatest, f.Held())
		}
		if greatest > 4608 || n == 1 && greatest != 4607 {
			t.Errorf("%d at once: %d bytes are held", n, greatest)
		}
		if !f.Done() || f.Held() != 0 {
			t.Errorf("%d at once: done %v, %d held", n, f.Done(), f.Held())
		}
	}
}

// heap is how much memory is in use.
func heap() int64 {
	runtime.GC()
	var m runtime.MemStats
	runtime.ReadMemStats(&m)
	return int64(m.HeapAlloc)
}

// TestLittleIsKept feeds very many bytes of which nothing has to be kept.
func TestLittleIsKept(t *testing.T) { // P10.4
	const limit = 1 << 20
	torn, broken := next("9 a=b\n"), of(512)
	for _, first := range []string{"", torn, broken, ending} {
		f := feed.New()
		f.Write([]byte(first))
		before := heap()
		for i := range 4000 {
			f.Write([]byte(all(record(fmt.Sprintf("key%d", i), of(1900)) + record("path", of(1900)))))
		}
		if grown := heap() - before; grown > limit {
			t.Errorf("behind %.20q a feed keeps %d bytes", first, grown)
		}
		runtime.KeepAlive(f)
	}
	f := feed.New()
	before := heap()
	f.Write([]byte(strings.Repeat(all(record("path", "a")), 16000) + "x"))
	if grown := heap() - before; grown > limit || f.Held() != 1 {
		t.Errorf("of a great piece a feed keeps %d bytes, and holds %d", grown, f.Held())
	}
	if l, e := f.Write([]byte(entry('5', "x", "", "")[1:])); !same(l, []api.Member{dir("a")}) || e != api.OK {
		t.Errorf("behind a great piece: %s, %d", shown(l), e)
	}
}

// TestRecordsOfAllLast feeds a member long behind the records of all.
func TestRecordsOfAllLast(t *testing.T) { // P10.3, P10.4
	b := all(record("path", "a")+record("linkpath", "b")) + strings.Repeat(all(record("c", "d"))+all(""), 300) + all(record("linkpath", "e")) +
		entry('2', "x", "y", "") + next(record("path", "f")) + entry('2', "x", "y", "") + entry('1', "x", "y", "") + ending
	l, e := feed.New().Write([]byte(b))
	if want := []api.Member{sym("a", "e"), sym("f", "e"), hard("a", "e")}; !same(l, want) || e != api.OK {
		t.Errorf("Write = %s, %d, not %s", shown(l), e, shown(want))
	}
	fed(t, "many records of all", b, each(b, 10007))
}

// TestArchiveOfTheLibrary feeds, in segments, an archive that the library laid.
func TestArchiveOfTheLibrary(t *testing.T) { // P10.1
	var out bytes.Buffer
	w := tar.NewWriter(&out)
	want := []api.Member{dir("top"), file("top/a", of(600)), hard("top/b", "top/a"), sym("top/c", of(150)), file(longPath(290), "x")}
	for _, m := range want {
		if err := w.WriteHeader(&tar.Header{Format: tar.FormatPAX, Typeflag: memb.Type(m.Kind), Name: m.Path, Linkname: m.Link, Size: int64(len(m.Data))}); err != nil {
			t.Fatal(err)
		}
		if _, err := w.Write(m.Data); err != nil {
			t.Fatal(err)
		}
	}
	if err := w.Close(); err != nil {
		t.Fatal(err)
	}
	for i := range want {
		// The library tells the zero time as the year 1.
		want[i].Meta.Mtime = 0
	}
	f := feed.New()
	var l []api.Member
	for p := range slices.Chunk(out.Bytes(), 256) {
		told, e := f.Write(p)
		if e != api.OK {
			t.Fatalf("Write: %d", e)
		}
		l = append(l, told...)
	}
	if !same(l, want) || !f.Done() || f.Close() != api.OK {
		t.Errorf("told are %s, done %v, not %s", shown(l), f.Done(), shown(want))
	}
}

// TestNothingIsWrittenOrShared writes into pieces, and into members, afterwards.
func TestNothingIsWrittenOrShared(t *testing.T) { // R3, R4
	b := laid(file("a", "abc"), file("b", of(600)), file("c", "def"), sym("d", of(200)))
	for _, n := range []int{1, 100, 256, 512, 1000, 1024, 3000, len(b)} {
		f := feed.New()
		var l []api.Member
		for p := range slices.Chunk([]byte(b), n) {
			wide := append(bytes.Clone(p), "room behind"...)
			kept := bytes.Clone(wide)
			told, e := f.Write(wide[:len(p)])
			if e != api.OK || !bytes.Equal(wide, kept) {
				t.Fatalf("%d at once: Write turned its bytes, or %d", n, e)
			}
			for i := range wide {
				wide[i] = 'w'
			}
			l = append(l, told...)
		}
		if len(l) != 4 || string(l[0].Data) != "abc" || string(l[1].Data) != of(600) || string(l[2].Data) != "def" || l[3].Link != of(200) || !f.Done() {
			t.Fatalf("%d at once: members hang on what is written into the pieces afterwards: %s", n, shown(l))
		}
		for i := range l {
			clear(l[i].Data[:cap(l[i].Data)])
			_ = append(l[i].Data, "xyz"...)
			for _, m := range l[i+1:] {
				if bytes.ContainsAny(m.Data, "\x00xyz") {
					t.Errorf("%d at once: members share their bytes", n)
				}
			}
		}
	}
}

// TestMembersAreNotTheFeeds writes into members between pieces.
func TestMembersAreNotTheFeeds(t *testing.T) { // R3
	b := laid(file("a", of(512)), file("b", of(512)), file("c", of(512)))
	f := feed.New()
	var told [][]api.Member
	for p := range slices.Chunk([]byte(b), 700) {
		l, e := f.Write(p)
		if e != api.OK {
			t.Fatalf("Write: %d", e)
		}
		for i := range l {
			if string(l[i].Data) != of(512) {
				t.Errorf("%s has other bytes", l[i].Path)
			}
			for j := range l[i].Data {
				l[i].Data[j] = 'w'
			}
		}
		told = append(told, l)
	}
	for _, l := range told {
		for _, m := range l {
			if string(m.Data) != strings.Repeat("w", 512) {
				t.Errorf("%s was turned by pieces behind it", m.Path)
			}
		}
	}
	if !f.Done() || f.Count() != 3 {
		t.Errorf("%+v", factsOf(f))
	}
}

// TestFeedsAreApart feeds two of them by turns.
func TestFeedsAreApart(t *testing.T) { // R3
	a, b := laid(dir("a"), file("b", of(700))), laid(file("c", of(900)), sym("d", of(120)))
	f, g := feed.New(), feed.New()
	var l, m []api.Member
	for at := 0; at < max(len(a), len(b)); at += 100 {
		told, e := f.Write([]byte(a[min(at, len(a)):min(at+100, len(a))]))
		l = append(l, told...)
		others, otherErr := g.Write([]byte(b[min(at, len(b)):min(at+100, len(b))]))
		m = append(m, others...)
		if e != api.OK || otherErr != api.OK {
			t.Fatalf("Write: %d, %d", e, otherErr)
		}
	}
	if !same(l, []api.Member{dir("a"), file("b", of(700))}) || !same(m, []api.Member{file("c", of(900)), sym("d", of(120))}) || !f.Done() || !g.Done() {
		t.Errorf("two feeds tell %s and %s", shown(l), shown(m))
	}
}

// FuzzWrite feeds any bytes, as they are, and as a header with its sum.
func FuzzWrite(f *testing.F) { // R1, P10.3
	for _, s := range pieces() {
		f.Add([]byte(s), int64(1))
		f.Add([]byte(s+ending), int64(2))
	}
	f.Fuzz(func(t *testing.T, b []byte, seed int64) {
		r := rand.New(rand.NewSource(seed))
		fed(t, "bytes", string(b), random(r, string(b), 8))
		if len(b) < 512 {
			return
		}
		rest := string(b[512:])
		s := summed(b) + rest + ending
		fed(t, "bytes with a sum", s, random(r, s, 8))
	})
}
