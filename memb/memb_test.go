package memb_test

import (
	"archive/tar"
	"bytes"
	"errors"
	"fmt"
	"io"
	"math"
	"slices"
	"strings"
	"testing"

	"thwart/api"
	"thwart/head"
	"thwart/memb"
	"thwart/recs"
)

// of is a text of n signs.
func of(n int) string {
	return strings.Repeat("n", n)
}

// path is a path of n bytes, of names of so many bytes; the first one has one
// less, where else a `/` would end the path, and the last one what is left.
func path(n, name int) string {
	b := bytes.Repeat([]byte("p"), n)
	at := name
	if n%(name+1) == 0 {
		at--
	}
	for ; at < n; at += name + 1 {
		b[at] = '/'
	}
	return string(b)
}

// parted tells by layer 2's words whether a path has a header's place, and its
// parts.
func parted(s string) (string, string, bool) {
	if s != "" && len(s) <= 100 {
		return "", s, true
	}
	for at := 1; at < len(s)-1 && at <= 155; at++ {
		if s[at] == '/' && len(s)-at-1 <= 100 {
			return s[:at], s[at+1:], true
		}
	}
	return "", "", false
}

// isPath tells by layer 4's words whether it is a path.
func isPath(s string) bool {
	for _, name := range strings.Split(s, "/") {
		if name == "" || name == "." || name == ".." || len(name) > 60 || strings.Contains(name, "\x00") {
			return false
		}
	}
	return len(s) <= 300
}

// mayWanted looks at a member by the chapter's words, in its order.
func mayWanted(m api.Member) api.Errno {
	none := func(e api.Errno, may bool) api.Errno {
		if may {
			return api.OK
		}
		return e
	}
	t := m.Meta
	l := []api.Errno{
		none(api.ErrPath, isPath(m.Path)),
		none(api.ErrKind, slices.Contains([]int{1, 2, 3, 4}, m.Kind)),
		none(api.ErrBig, t.Mode >= 0 && t.Mode <= 4095),
		none(api.ErrBig, t.Uid >= 0 && t.Uid <= 1099511627775),
		none(api.ErrBig, t.Gid >= 0 && t.Gid <= 1099511627775),
		none(api.ErrBig, t.Mtime >= -1125899906842624 && t.Mtime <= 1125899906842624),
	}
	switch m.Kind {
	case 1:
		l = append(l, none(api.ErrBig, len(m.Data) <= 4096), none(api.ErrForm, len(m.Link) == 0))
	case 2:
		l = append(l, none(api.ErrPath, isPath(m.Link)), none(api.ErrForm, len(m.Data) == 0))
	case 3:
		l = append(l, none(api.ErrForm, len(m.Link) > 0), none(api.ErrForm, !strings.Contains(m.Link, "\x00")),
			none(api.ErrBig, len(m.Link) <= 300), none(api.ErrForm, len(m.Data) == 0))
	case 4:
		l = append(l, none(api.ErrForm, len(m.Data) == 0), none(api.ErrForm, len(m.Link) == 0))
	}
	for _, e := range l {
		if e != api.OK {
			return e
		}
	}
	return api.OK
}

// recsWanted are the records that a member needs, by the chapter's words.
func recsWanted(m api.Member) []recs.Rec {
	var l []recs.Rec
	if _, _, ok := parted(m.Path); !ok {
		l = append(l, recs.Rec{Key: "path", Value: m.Path})
	}
	if len(m.Link) > 100 {
		l = append(l, recs.Rec{Key: "linkpath", Value: m.Link})
	}
	return l
}

// record lays one, by the least number that tells how many bytes it makes.
func record(r recs.Rec) string {
	for n := 1; ; n++ {
		if s := fmt.Sprintf("%d %s=%s\n", n, r.Key, r.Value); len(s) == n {
			return s
		}
	}
}

// filled has bytes 0 behind, up to a whole block.
func filled(s string) string {
	for len(s)%512 != 0 {
		s += "\x00"
	}
	return s
}

// block is a header's block; head's own tests look at it.
func block(t *testing.T, h head.Header) string {
	t.Helper()
	b, e := head.Lay(h)
	if e != api.OK {
		t.Fatalf("Lay(%+v): %d", h, e)
	}
	return string(b)
}

// laidWanted lays a member by the chapter's words.
func laidWanted(t *testing.T, m api.Member) string {
	t.Helper()
	records := ""
	for _, r := range recsWanted(m) {
		records += record(r)
	}
	laid := ""
	if records != "" {
		laid = block(t, head.Header{Name: "pax", Type: 'x', Size: int64(len(records))}) + filled(records)
	}
	prefix, name, ok := parted(m.Path)
	if !ok {
		name = m.Path[:100]
	}
	link := m.Link
	if len(link) > 100 {
		link = link[:100]
	}
	own := head.Header{Prefix: prefix, Name: name, Meta: m.Meta, Type: "0125"[m.Kind-1], Link: link, Size: int64(len(m.Data))}
	return laid + block(t, own) + filled(string(m.Data))
}

// plain is a member of a kind, of which no number is 0.
func plain(kind int) api.Member {
	m := api.Member{Path: "top/name", Kind: kind, Meta: api.Meta{Mode: 0o644, Uid: 1000, Gid: 100, Mtime: 1234567890}}
	switch kind {
	case api.File:
		m.Data = []byte("some bytes")
	case api.Hard:
		m.Link = "another/one"
	case api.Sym:
		m.Link = "../to"
	}
	return m
}

// shown is a member as a failure tells it.
func shown(m api.Member) string {
	return fmt.Sprintf("{%.80q (%d bytes), kind %d, %v, %.80q (%d), %.80q (%d)}",
		m.Path, len(m.Path), m.Kind, m.Meta, m.Link, len(m.Link), m.Data, len(m.Data))
}

// kinds are all of them.
var kinds = []int{api.File, api.Hard, api.Sym, api.Dir}

// paths are paths: those that a header has room for, and those that it has not,
// with all edges.
func paths() []string {
	l := []string{"a", "a/b", "a.b", "...", "..a/b", " ", "\xff\x01\n", "\u00e4/\u6f22", "path=a\n", of(60), path(119, 59) + "/a"}
	for n := 95; n <= 105; n++ {
		l = append(l, path(n, 59), path(n, 2))
	}
	for n := 150; n <= 300; n++ {
		l = append(l, path(n, 60), path(n, 59), path(n, 50))
	}
	return l
}

// mayBe are members that may be: each part with all its edges.
func mayBe() []api.Member {
	var l []api.Member
	add := func(turn func(*api.Member)) {
		for _, kind := range kinds {
			for _, m := range []api.Member{plain(kind), {Path: "a", Kind: kind, Link: plain(kind).Link}} {
				turn(&m)
				l = append(l, m)
			}
		}
	}
	for _, s := range paths() {
		add(func(m *api.Member) { m.Path = s })
		l = append(l, api.Member{Path: "a", Kind: api.Hard, Link: s}, api.Member{Path: s, Kind: api.Hard, Link: s})
	}
	for n := 1; n <= 300; n++ {
		for _, sign := range []string{"l", "/", "\xff", "\n"} {
			l = append(l, api.Member{Path: "a", Kind: api.Sym, Link: strings.Repeat(sign, n)})
		}
		l = append(l, api.Member{Path: path(300, 60), Kind: api.Sym, Link: of(n)})
	}
	for _, s := range []string{".", "..", "/", "//", "../..", "/a/", "a/b", " ", "=", "linkpath=a\n"} {
		l = append(l, api.Member{Path: "a", Kind: api.Sym, Link: s})
	}
	for _, n := range []int64{0, 1, 7, 8, 4094, 4095} {
		add(func(m *api.Member) { m.Meta.Mode = n })
	}
	for _, n := range []int64{0, 1, 4096, 1<<21 - 1, 1 << 21, 1<<40 - 2, 1<<40 - 1} {
		add(func(m *api.Member) { m.Meta.Uid = n })
		add(func(m *api.Member) { m.Meta.Gid = n })
	}
	for _, n := range []int64{0, 1, 1<<33 - 1, 1 << 33, 1<<50 - 1, 1 << 50} {
		add(func(m *api.Member) { m.Meta.Mtime = n })
		add(func(m *api.Member) { m.Meta.Mtime = -n })
	}
	for _, n := range []int{0, 1, 2, 511, 512, 513, 1023, 1024, 1025, 3584, 4095, 4096} {
		l = append(l, api.Member{Path: "a", Kind: api.File, Data: []byte(of(n))}, api.Member{Path: path(300, 50), Kind: api.File, Data: make([]byte, n)})
	}
	return l
}

// fault makes a member one that may not be.
type fault struct {
	name string
	turn func(*api.Member)
	e    api.Errno
}

// anyFaults are those of every kind, in the order in which they are told of.
func anyFaults() []fault {
	l := []fault{}
	for _, s := range []string{"", "/", "/a", "a/", "a//b", ".", "..", "a/..", "../a", "a\x00", of(61), "a/" + of(61), path(301, 60), of(1 << 20)} {
		l = append(l, fault{fmt.Sprintf("the path %.80q", s), func(m *api.Member) { m.Path = s }, api.ErrPath})
	}
	for _, kind := range []int{0, -1, 5, 6, '0', '5', 1 << 32, 1<<32 + 1, math.MaxInt, math.MinInt} {
		l = append(l, fault{fmt.Sprintf("the kind %d", kind), func(m *api.Member) { m.Kind = kind }, api.ErrKind})
	}
	for _, n := range []int64{-1, 4096, 1 << 21, 1 << 40, 1 << 50, math.MaxInt64, math.MinInt64} {
		l = append(l, fault{fmt.Sprintf("the mode %d", n), func(m *api.Member) { m.Meta.Mode = n }, api.ErrBig})
	}
	for _, n := range []int64{-1, 1 << 40, 1<<40 + 1, 1 << 56, math.MaxInt64, math.MinInt64} {
		l = append(l, fault{fmt.Sprintf("the uid %d", n), func(m *api.Member) { m.Meta.Uid = n }, api.ErrBig})
		l = append(l, fault{fmt.Sprintf("the gid %d", n), func(m *api.Member) { m.Meta.Gid = n }, api.ErrBig})
	}
	for _, n := range []int64{-1<<50 - 1, 1<<50 + 1, 1 << 56, math.MaxInt64, math.MinInt64} {
		l = append(l, fault{fmt.Sprintf("the mtime %d", n), func(m *api.Member) { m.Meta.Mtime = n }, api.ErrBig})
	}
	return l
}

// kindFaults are those of one kind, in the order in which they are told of.
func kindFaults(kind int) []fault {
	link := func(s string, e api.Errno) fault {
		return fault{fmt.Sprintf("the link %.80q", s), func(m *api.Member) { m.Link = s }, e}
	}
	data := func(n int, e api.Errno) fault {
		return fault{fmt.Sprintf("%d bytes", n), func(m *api.Member) { m.Data = make([]byte, n) }, e}
	}
	switch kind {
	case api.File:
		return []fault{data(4097, api.ErrBig), data(1<<20, api.ErrBig), link("a", api.ErrForm), link("\x00", api.ErrForm), link(of(400), api.ErrForm)}
	case api.Hard:
		return []fault{
			link("", api.ErrPath), link("/", api.ErrPath), link("/a", api.ErrPath), link("a/", api.ErrPath), link("../a", api.ErrPath),
			link("a\x00", api.ErrPath), link(of(61), api.ErrPath), link(path(301, 60), api.ErrPath), link(of(1<<20), api.ErrPath),
			data(1, api.ErrForm), data(4096, api.ErrForm), data(4097, api.ErrForm),
		}
	case api.Sym:
		return []fault{
			link("", api.ErrForm), link("\x00", api.ErrForm), link("a\x00", api.ErrForm), link("a\x00b", api.ErrForm),
			link(of(300)+"\x00", api.ErrForm), link(of(1<<20)+"\x00", api.ErrForm),
			link(of(301), api.ErrBig), link(strings.Repeat("\u00e4", 151), api.ErrBig), link(of(1<<20), api.ErrBig),
			data(1, api.ErrForm), data(4096, api.ErrForm), data(4097, api.ErrForm),
		}
	}
	return []fault{data(1, api.ErrForm), data(4097, api.ErrForm), link("a", api.ErrForm), link("\x00", api.ErrForm), link(of(400), api.ErrForm)}
}

// refused looks whether a member is refused by that error.
func refused(t *testing.T, what string, m api.Member, want api.Errno) {
	t.Helper()
	if e := mayWanted(m); e != want {
		t.Fatalf("of one with %s %d is wanted, not %d", what, want, e)
	}
	if e := memb.May(m); e != want {
		t.Errorf("May of one with %s = %d, not %d", what, e, want)
	}
	if b, e := memb.Lay(m); b != nil || e != want {
		t.Errorf("Lay of one with %s = %d bytes, %d, not %d", what, len(b), e, want)
	}
	if n := memb.Len(m); n != 0 {
		t.Errorf("Len of one with %s = %d, not 0", what, n)
	}
}

func TestTypeAndKind(t *testing.T) { // P8.1
	for kind, c := range map[int]byte{1: '0', 2: '1', 3: '2', 4: '5'} {
		if got := memb.Type(kind); got != c {
			t.Errorf("Type(%d) = %d, not %d", kind, got, c)
		}
		if got := memb.Kind(c); got != kind {
			t.Errorf("Kind(%d) = %d, not %d", c, got, kind)
		}
	}
	for _, kind := range []int{0, -1, -4, 5, 6, '0', '1', '2', '5', 257, 1<<32 + 1, math.MaxInt, math.MinInt} {
		if got := memb.Type(kind); got != 0 {
			t.Errorf("Type(%d) = %d, not 0", kind, got)
		}
	}
	for c := range 256 {
		if got := memb.Kind(byte(c)); got != 0 && strings.IndexByte("0125", byte(c)) < 0 {
			t.Errorf("Kind(%d) = %d, not 0", c, got)
		}
	}
}

func TestRecs(t *testing.T) { // P8.1
	long, cut := path(300, 60), path(160, 50)
	for _, c := range []struct {
		m    api.Member
		want []recs.Rec
	}{
		{plain(api.File), nil}, {plain(api.Hard), nil}, {plain(api.Sym), nil}, {plain(api.Dir), nil},
		{api.Member{Path: path(100, 50), Kind: api.Dir}, nil},
		{api.Member{Path: path(160, 50), Kind: api.Dir}, nil},
		{api.Member{Path: path(256, 50), Kind: api.Dir}, []recs.Rec{{Key: "path", Value: path(256, 50)}}},
		{api.Member{Path: long, Kind: api.File}, []recs.Rec{{Key: "path", Value: long}}},
		{api.Member{Path: "a", Kind: api.Sym, Link: of(100)}, nil},
		{api.Member{Path: "a", Kind: api.Sym, Link: of(101)}, []recs.Rec{{Key: "linkpath", Value: of(101)}}},
		{api.Member{Path: "a", Kind: api.Hard, Link: cut}, []recs.Rec{{Key: "linkpath", Value: cut}}},
		{api.Member{Path: long, Kind: api.Hard, Link: long}, []recs.Rec{{Key: "path", Value: long}, {Key: "linkpath", Value: long}}},
		// What may not be is looked at all the same.
		{api.Member{}, []recs.Rec{{Key: "path"}}},
		{api.Member{Path: of(101)}, []recs.Rec{{Key: "path", Value: of(101)}}},
		{api.Member{Path: "a\x00", Link: of(3000)}, []recs.Rec{{Key: "linkpath", Value: of(3000)}}},
	} {
		if got := memb.Recs(c.m); !slices.Equal(got, c.want) {
			t.Errorf("Recs(%s) = %q, not %q", shown(c.m), got, c.want)
		}
	}
	needed := map[int]int{}
	for _, m := range mayBe() {
		want := recsWanted(m)
		if got := memb.Recs(m); !slices.Equal(got, want) {
			t.Errorf("Recs(%s) = %q, not %q", shown(m), got, want)
		}
		needed[len(want)]++
	}
	for n := range 3 {
		if needed[n] < 10 {
			t.Errorf("only %d members need %d records", needed[n], n)
		}
	}
}

func TestMayLayAndLen(t *testing.T) { // P8.1
	for _, m := range mayBe() {
		if e := memb.May(m); e != api.OK {
			t.Errorf("May(%s) = %d", shown(m), e)
		}
		want := laidWanted(t, m)
		if b, e := memb.Lay(m); string(b) != want || e != api.OK {
			t.Errorf("Lay(%s) = %.900q, %d, not %.900q", shown(m), b, e, want)
		}
		if n := memb.Len(m); n != len(want) {
			t.Errorf("Len(%s) = %d, not %d", shown(m), n, len(want))
		}
	}
}

// TestLaidInFull holds laid members against their bytes as they are written in
// full.
func TestLaidInFull(t *testing.T) { // P8.1
	link := strings.Repeat("l/", 50) + "l"
	b, e := memb.Lay(api.Member{Path: path(300, 60), Kind: api.Hard, Meta: api.Meta{Mode: 7, Uid: 8, Gid: 9, Mtime: 10}, Link: link})
	if len(b) != 512+512+512 || e != api.OK {
		t.Fatalf("Lay: %d bytes, %d", len(b), e)
	}
	records := "310 path=" + path(300, 60) + "\n" + "115 linkpath=" + link + "\n"
	for _, f := range []struct {
		at   int
		want string
	}{
		{0, "pax\x00"}, {100, "0000000\x00" + "0000000\x00" + "0000000\x00" + "00000000651\x00" + "00000000000\x00"}, {156, "x" + strings.Repeat("\x00", 100)},
		{257, "ustar\x0000"}, {345, strings.Repeat("\x00", 167)},
		{512, filled(records)},
		{1024, path(300, 60)[:100] + "0000007\x00" + "0000010\x00" + "0000011\x00" + "00000000000\x00" + "00000000012\x00"},
		{1024 + 156, "1" + link[:100] + "ustar\x0000"}, {1024 + 345, strings.Repeat("\x00", 167)},
	} {
		if got := string(b[f.at : f.at+len(f.want)]); got != f.want {
			t.Errorf("at %d stands %q, not %q", f.at, got, f.want)
		}
	}
	b, e = memb.Lay(api.Member{Path: path(155, 50) + "/" + path(100, 50), Kind: api.File, Data: []byte("ab")})
	if len(b) != 1024 || e != api.OK {
		t.Fatalf("Lay: %d bytes, %d", len(b), e)
	}
	if got := string(b[:100]) + string(b[124:136]) + string(b[156:158]) + string(b[345:500]); got != path(100, 50)+"00000000002\x00"+"0\x00"+path(155, 50) {
		t.Errorf("Lay of a path of 256 bytes: %q", b)
	}
	if got := string(b[512:]); got != "ab"+strings.Repeat("\x00", 510) {
		t.Errorf("Lay of two bytes: %q", got)
	}
	if b, e := memb.Lay(api.Member{Path: "a", Kind: api.Dir}); len(b) != 512 || b[156] != '5' || e != api.OK {
		t.Errorf("Lay of a Dir: %q, %d", b, e)
	}
}

// TestMayFaults looks at members with one fault, and with each two: the one
// named first is told.
func TestMayFaults(t *testing.T) { // P8.1
	refused(t, "nothing", api.Member{}, api.ErrPath)
	for _, kind := range kinds {
		l := anyFaults()
		for i, f := range l {
			m := plain(kind)
			f.turn(&m)
			refused(t, f.name, m, f.e)
			for _, g := range l[i+1:] {
				m := plain(kind)
				g.turn(&m)
				f.turn(&m)
				refused(t, g.name+" and "+f.name, m, mayWanted(m))
			}
			for _, g := range kindFaults(kind) {
				m := plain(kind)
				g.turn(&m)
				f.turn(&m)
				refused(t, g.name+" and "+f.name, m, f.e)
			}
		}
	}
}

func TestMayFaultsOfAKind(t *testing.T) { // P8.1
	for _, kind := range kinds {
		l := kindFaults(kind)
		for _, f := range l {
			for _, m := range []api.Member{plain(kind), {Path: path(300, 60), Kind: kind, Link: plain(kind).Link}} {
				f.turn(&m)
				refused(t, fmt.Sprintf("the kind %d, and %s", kind, f.name), m, f.e)
			}
			for _, g := range l {
				m := plain(kind)
				g.turn(&m)
				f.turn(&m)
				refused(t, fmt.Sprintf("the kind %d, %s and %s", kind, g.name, f.name), m, mayWanted(m))
			}
		}
	}
	// Of a File the bytes are told of ahead of the link, of all others the link
	// ahead of the bytes.
	long := make([]byte, 4097)
	refused(t, "too many bytes, and a link", api.Member{Path: "a", Kind: api.File, Link: "a", Data: long}, api.ErrBig)
	refused(t, "bytes, and no link", api.Member{Path: "a", Kind: api.Hard, Data: long}, api.ErrPath)
	refused(t, "bytes, and a long link", api.Member{Path: "a", Kind: api.Sym, Link: of(301), Data: long}, api.ErrBig)
	refused(t, "a long link with a 0", api.Member{Path: "a", Kind: api.Sym, Link: of(301) + "\x00"}, api.ErrForm)
	refused(t, "a Dir's bytes and link", api.Member{Path: "a", Kind: api.Dir, Link: of(301), Data: long}, api.ErrForm)
}

// TestEachByteOfALink puts each byte in each place of links.
func TestEachByteOfALink(t *testing.T) { // P8.1
	for at := range 4 {
		for c := range 256 {
			b := []byte("link")
			b[at] = byte(c)
			for _, kind := range []int{api.Hard, api.Sym} {
				m := api.Member{Path: "a", Kind: kind, Link: string(b)}
				if e := memb.May(m); e != mayWanted(m) {
					t.Errorf("May(%s) = %d, not %d", shown(m), e, mayWanted(m))
				}
			}
		}
	}
}

// taken looks what is made of a header, records and bytes.
func taken(t *testing.T, h head.Header, l []recs.Rec, data []byte, want api.Member, wantErr api.Errno) {
	t.Helper()
	if m, e := memb.From(h, l, data); !memb.Same(m, want) || e != wantErr {
		t.Errorf("From(%+v, %.80q, %d bytes) = %s, %d, not %s, %d", h, l, len(data), shown(m), e, shown(want), wantErr)
	}
}

// own is the header of a member of that type.
func own(c byte) head.Header {
	return head.Header{Prefix: "top", Name: "name", Meta: api.Meta{Mode: 1, Uid: 2, Gid: 3, Mtime: -4}, Type: c, Link: "to", Size: 5}
}

// made is the member of it.
func made(c byte) api.Member {
	m := api.Member{Path: "top/name", Meta: api.Meta{Mode: 1, Uid: 2, Gid: 3, Mtime: -4}}
	switch c {
	case '0':
		m.Kind, m.Data = api.File, []byte("bytes")
	case '1':
		m.Kind, m.Link = api.Hard, "to"
	case '2':
		m.Kind, m.Link = api.Sym, "to"
	case '5':
		m.Kind = api.Dir
	}
	return m
}

func TestFrom(t *testing.T) { // P8.2
	for _, c := range []byte("0125") {
		taken(t, own(c), nil, []byte("bytes"), made(c), api.OK)
		taken(t, own(c), []recs.Rec{}, []byte("bytes"), made(c), api.OK)
		// Its size plays no part, whatever it tells.
		for _, size := range []int64{0, -1, 4, 6, 4097, math.MaxInt64, math.MinInt64} {
			h := own(c)
			h.Size = size
			taken(t, h, nil, []byte("bytes"), made(c), api.OK)
		}
	}
	for _, data := range [][]byte{nil, {}, make([]byte, 1), []byte(of(512)), []byte(of(4096))} {
		want := made('0')
		want.Data = data
		taken(t, own('0'), nil, data, want, api.OK)
	}
	// Bytes of what is no File play no part, be they too many.
	for _, c := range []byte("125") {
		for _, n := range []int{0, 1, 4096, 4097, 1 << 20} {
			taken(t, own(c), nil, make([]byte, n), made(c), api.OK)
		}
	}
}

func TestFromRecords(t *testing.T) { // P8.2
	long := path(300, 60)
	for _, c := range []byte("0125") {
		for _, r := range []struct {
			l          []recs.Rec
			path, link string
		}{
			{[]recs.Rec{{Key: "path", Value: "a"}}, "a", "to"},
			{[]recs.Rec{{Key: "path", Value: long}}, long, "to"},
			{[]recs.Rec{{Key: "linkpath", Value: "b"}}, "top/name", "b"},
			{[]recs.Rec{{Key: "linkpath", Value: long}}, "top/name", long},
			{[]recs.Rec{{Key: "path", Value: "a"}, {Key: "linkpath", Value: "b"}}, "a", "b"},
			{[]recs.Rec{{Key: "linkpath", Value: "b"}, {Key: "path", Value: "a"}}, "a", "b"},
			// The last one holds.
			{[]recs.Rec{{Key: "path", Value: "a"}, {Key: "path", Value: "b"}}, "b", "to"},
			{[]recs.Rec{{Key: "path", Value: ""}, {Key: "path", Value: "b"}}, "b", "to"},
			{[]recs.Rec{{Key: "linkpath", Value: "\x00"}, {Key: "path", Value: "x"}, {Key: "linkpath", Value: "d"}}, "x", "d"},
			// Others play no part.
			{[]recs.Rec{{Key: "mtime", Value: "7"}, {Key: "size", Value: "9"}, {Key: "uid", Value: "9"}, {Key: "Path", Value: "9"}}, "top/name", "to"},
			{[]recs.Rec{{Key: "", Value: "9"}, {Key: "path ", Value: "9"}, {Key: "link", Value: "9"}, {Key: "linkname", Value: "9"}}, "top/name", "to"},
		} {
			want := made(c)
			want.Path = r.path
			if want.Link != "" {
				want.Link = r.link
			}
			taken(t, own(c), r.l, []byte("bytes"), want, api.OK)
		}
	}
}

// TestFromALink gives a File and a Dir links that may not be: these play no
// part there.
func TestFromALink(t *testing.T) { // P8.2
	for _, link := range []string{"", "a", "/", "\x00", of(101), of(301), of(3000)} {
		for _, c := range []byte("05") {
			h := own(c)
			h.Link = link
			taken(t, h, nil, []byte("bytes"), made(c), api.OK)
			taken(t, own(c), []recs.Rec{{Key: "linkpath", Value: link}}, []byte("bytes"), made(c), api.OK)
			taken(t, h, []recs.Rec{{Key: "linkpath", Value: link}}, []byte("bytes"), made(c), api.OK)
		}
	}
}

// TestFromTheHeaderIsNotLookedAt hides a header's path and link behind records:
// they may be any.
func TestFromTheHeaderIsNotLookedAt(t *testing.T) { // P8.2
	for _, c := range []byte("0125") {
		h := own(c)
		h.Prefix, h.Name, h.Link = "/..", "\x00", of(400)
		want := made(c)
		taken(t, h, []recs.Rec{{Key: "path", Value: "top/name"}, {Key: "linkpath", Value: "to"}}, []byte("bytes"), want, api.OK)
		h.Prefix, h.Name, h.Link = "", "", ""
		taken(t, h, []recs.Rec{{Key: "path", Value: "top/name"}, {Key: "linkpath", Value: "to"}}, []byte("bytes"), want, api.OK)
	}
}

func TestFromNoMember(t *testing.T) { // P8.2
	for c := range 256 {
		if strings.IndexByte("0125", byte(c)) >= 0 {
			continue
		}
		taken(t, own(byte(c)), nil, []byte("bytes"), api.Member{}, api.ErrKind)
		// All other errors stand behind.
		taken(t, head.Header{Type: byte(c), Meta: api.Meta{Mode: -1}}, []recs.Rec{{Key: "path"}}, make([]byte, 4097), api.Member{}, api.ErrKind)
	}
}

func TestFromFaults(t *testing.T) { // P8.2
	for _, c := range []byte("0125") {
		for _, s := range []string{"", "/", "/a", "a/", "a//b", "a/..", "a\x00", of(61), path(301, 60)} {
			h := own(c)
			h.Prefix, h.Name = "", s
			taken(t, h, nil, nil, api.Member{}, api.ErrPath)
			taken(t, own(c), []recs.Rec{{Key: "path", Value: "a"}, {Key: "path", Value: s}}, nil, api.Member{}, api.ErrPath)
			h.Meta.Mode = -1
			taken(t, h, nil, make([]byte, 4097), api.Member{}, api.ErrPath)
		}
		for _, turn := range []func(*api.Meta){
			func(m *api.Meta) { m.Mode = 4096 }, func(m *api.Meta) { m.Mode = -1 }, func(m *api.Meta) { m.Uid = 1 << 40 }, func(m *api.Meta) { m.Uid = -1 },
			func(m *api.Meta) { m.Gid = 1 << 40 }, func(m *api.Meta) { m.Gid = -1 }, func(m *api.Meta) { m.Mtime = 1<<50 + 1 }, func(m *api.Meta) { m.Mtime = -1<<50 - 1 },
		} {
			h := own(c)
			turn(&h.Meta)
			taken(t, h, nil, nil, api.Member{}, api.ErrBig)
			// A number is told of ahead of a link.
			taken(t, h, []recs.Rec{{Key: "linkpath"}}, nil, api.Member{}, api.ErrBig)
		}
	}
	taken(t, own('0'), nil, make([]byte, 4097), api.Member{}, api.ErrBig)
	for _, s := range []struct {
		c    byte
		link string
		e    api.Errno
	}{
		{'1', "", api.ErrPath}, {'1', "/a", api.ErrPath}, {'1', "..", api.ErrPath}, {'1', of(101), api.ErrPath}, {'1', path(301, 60), api.ErrPath},
		{'2', "", api.ErrForm}, {'2', "\x00", api.ErrForm}, {'2', of(301), api.ErrBig}, {'2', of(301) + "\x00", api.ErrForm},
	} {
		h := own(s.c)
		h.Link = s.link
		taken(t, h, nil, nil, api.Member{}, s.e)
		taken(t, own(s.c), []recs.Rec{{Key: "linkpath", Value: "a"}, {Key: "linkpath", Value: s.link}}, nil, api.Member{}, s.e)
	}
}

func TestSame(t *testing.T) { // P8.2
	all := []api.Member{{}, {Path: "a"}, {Link: "a"}, {Data: []byte("a")}, {Data: []byte{0}}, {Kind: -1}}
	for _, kind := range kinds {
		for _, turn := range []func(*api.Member){
			func(*api.Member) {}, func(m *api.Member) { m.Path += "/a" }, func(m *api.Member) { m.Kind += 4 },
			func(m *api.Member) { m.Meta.Mode++ }, func(m *api.Member) { m.Meta.Uid++ }, func(m *api.Member) { m.Meta.Gid++ }, func(m *api.Member) { m.Meta.Mtime++ },
			func(m *api.Member) { m.Link += "a" }, func(m *api.Member) { m.Link += "b" },
			func(m *api.Member) { m.Data = append(m.Data, 'a') }, func(m *api.Member) { m.Data = append(m.Data, 'b') }, func(m *api.Member) { m.Data = append(m.Data, 0) },
		} {
			m := plain(kind)
			turn(&m)
			all = append(all, m)
		}
	}
	for i, a := range all {
		for j, b := range all {
			b.Data = bytes.Clone(b.Data)
			if got := memb.Same(a, b); got != (i == j) {
				t.Errorf("Same(%s, %s) = %t", shown(a), shown(b), got)
			}
		}
	}
	a, b := api.Member{Path: "a", Kind: api.File}, api.Member{Path: "a", Kind: api.File, Data: []byte{}}
	if !memb.Same(a, b) || !memb.Same(b, a) { // R5
		t.Errorf("no bytes are not the same as none")
	}
}

// TestNoBytes lays members whose bytes are an empty list, and none: these are
// the same.
func TestNoBytes(t *testing.T) { // R5
	for _, kind := range kinds {
		m := plain(kind)
		m.Data = nil
		want, _ := memb.Lay(m)
		m.Data = []byte{}
		if b, e := memb.Lay(m); !bytes.Equal(b, want) || e != api.OK || memb.May(m) != api.OK {
			t.Errorf("Lay(%s) = %.900q, %d, not %.900q", shown(m), b, e, want)
		}
	}
}

func TestLaidHasWholeBlocks(t *testing.T) { // P8.3
	whole := func(n int) int { return (n + 511) / 512 * 512 }
	for _, m := range mayBe() {
		want := 512 + whole(len(m.Data))
		records := 0
		for _, r := range memb.Recs(m) {
			records += recs.Len(r)
		}
		if records > 0 {
			want += 512 + whole(records)
		}
		b, e := memb.Lay(m)
		if len(b) != want || len(b)%512 != 0 || e != api.OK {
			t.Errorf("Lay(%s): %d bytes, %d, not %d", shown(m), len(b), e, want)
		}
	}
	for _, c := range []struct {
		m    api.Member
		want int
	}{
		{api.Member{Path: "a", Kind: api.Dir}, 512},
		{api.Member{Path: "a", Kind: api.File}, 512},
		{api.Member{Path: "a", Kind: api.File, Data: make([]byte, 1)}, 1024},
		{api.Member{Path: "a", Kind: api.File, Data: make([]byte, 512)}, 1024},
		{api.Member{Path: "a", Kind: api.File, Data: make([]byte, 513)}, 1536},
		{api.Member{Path: "a", Kind: api.File, Data: make([]byte, 4096)}, 4608},
		{api.Member{Path: path(300, 60), Kind: api.Dir}, 1536},
		{api.Member{Path: path(300, 60), Kind: api.Sym, Link: of(101)}, 1536},
		{api.Member{Path: path(300, 60), Kind: api.Sym, Link: of(300)}, 2048},
		{api.Member{Path: path(300, 60), Kind: api.Sym, Link: of(188)}, 1536},
		{api.Member{Path: path(300, 60), Kind: api.Sym, Link: of(189)}, 2048},
		{api.Member{Path: path(300, 60), Kind: api.File, Data: make([]byte, 4096)}, 5632},
	} {
		if n := memb.Len(c.m); n != c.want {
			t.Errorf("Len(%s) = %d, not %d", shown(c.m), n, c.want)
		}
	}
}

// readBack reads a member's blocks by the layers beneath.
func readBack(t *testing.T, b []byte) (api.Member, api.Errno) {
	t.Helper()
	h, e := head.Parse(b[:512])
	if e != api.OK {
		t.Fatalf("Parse: %d", e)
	}
	var l []recs.Rec
	if h.Type == 'x' {
		if l, e = recs.Parse(b[512 : 512+h.Size]); e != api.OK {
			t.Fatalf("Parse of records: %d", e)
		}
		b = b[512+len(filled(of(int(h.Size)))):]
		if h, e = head.Parse(b[:512]); e != api.OK {
			t.Fatalf("Parse behind records: %d", e)
		}
	}
	return memb.From(h, l, b[512:512+h.Size])
}

func TestLaidIsTaken(t *testing.T) { // P8.1, P8.2
	for _, m := range mayBe() {
		b, e := memb.Lay(m)
		if e != api.OK {
			t.Errorf("Lay(%s): %d", shown(m), e)
			continue
		}
		if got, e := readBack(t, b); !memb.Same(got, m) || e != api.OK {
			t.Errorf("%s is read as %s, %d", shown(m), shown(got), e)
		}
	}
}

// TestLaidForOthers reads members by the library's archives.
func TestLaidForOthers(t *testing.T) { // P8.1
	for _, m := range mayBe() {
		if strings.ContainsAny(m.Link, "\xff") || strings.ContainsAny(m.Path, "\xff") {
			continue
		}
		b, e := memb.Lay(m)
		if e != api.OK {
			t.Errorf("Lay(%s): %d", shown(m), e)
			continue
		}
		r := tar.NewReader(bytes.NewReader(append(b, make([]byte, 1024)...)))
		h, err := r.Next()
		if err != nil && !errors.Is(err, tar.ErrInsecurePath) {
			t.Errorf("%s is not read: %v", shown(m), err)
			continue
		}
		data, err := io.ReadAll(r)
		if err != nil {
			t.Errorf("bytes of %s are not read: %v", shown(m), err)
		}
		if h.Name != m.Path || h.Linkname != m.Link || h.Typeflag != memb.Type(m.Kind) || !bytes.Equal(data, m.Data) ||
			h.Mode != m.Meta.Mode || int64(h.Uid) != m.Meta.Uid || int64(h.Gid) != m.Meta.Gid || h.ModTime.Unix() != m.Meta.Mtime {
			t.Errorf("%s is read as %+v", shown(m), h)
		}
		if _, err := r.Next(); err != io.EOF {
			t.Errorf("behind %s stands something: %v", shown(m), err)
		}
	}
}

func TestNothingIsWrittenOrShared(t *testing.T) { // R3, R4
	data := make([]byte, 3, 2000)
	copy(data, "abc")
	m := api.Member{Path: path(300, 60), Kind: api.File, Data: data}
	laid, e := memb.Lay(m)
	if e != api.OK || string(data[:2000]) != "abc"+strings.Repeat("\x00", 1997) {
		t.Errorf("Lay turned its bytes, or %d", e)
	}
	kept := bytes.Clone(laid)
	clear(laid)
	if again, _ := memb.Lay(m); !bytes.Equal(again, kept) {
		t.Errorf("answers share their bytes")
	}
	l := memb.Recs(m)
	clear(l)
	if again := memb.Recs(m); len(again) != 1 || again[0] != (recs.Rec{Key: "path", Value: m.Path}) {
		t.Errorf("answers share their records: %q", again)
	}
	records := []recs.Rec{{Key: "path", Value: "a"}, {Key: "linkpath", Value: "b"}}
	got, e := memb.From(head.Header{Name: "b", Type: '0'}, records, data)
	if !slices.Equal(records, []recs.Rec{{Key: "path", Value: "a"}, {Key: "linkpath", Value: "b"}}) || string(data) != "abc" || e != api.OK {
		t.Errorf("From turned what it was handed, or %d", e)
	}
	clear(data)
	if string(got.Data) != "abc" {
		t.Errorf("a member hangs on what is written into its bytes afterwards: %q", got.Data)
	}
}

// FuzzMember lays any member: it is refused as the chapter says, or read again.
func FuzzMember(f *testing.F) { // R1, P8.1, P8.2, P8.3
	f.Add("a", 1, int64(1), int64(2), int64(3), int64(4), "", []byte("b"))
	f.Add(path(300, 60), 2, int64(0), int64(0), int64(0), int64(-1), path(200, 60), []byte{})
	f.Add(path(256, 50), 3, int64(4095), int64(1<<40-1), int64(1<<40-1), int64(1<<50), of(300), []byte{})
	f.Add("..", 4, int64(-1), int64(-1), int64(-1), int64(-1<<60), "\x00", make([]byte, 4097))
	f.Fuzz(func(t *testing.T, path string, kind int, mode, uid, gid, mtime int64, link string, data []byte) {
		m := api.Member{Path: path, Kind: kind, Meta: api.Meta{Mode: mode, Uid: uid, Gid: gid, Mtime: mtime}, Link: link, Data: data}
		b, e := memb.Lay(m)
		if want := mayWanted(m); e != want || memb.May(m) != want || memb.Len(m) != len(b) || len(b)%512 != 0 {
			t.Errorf("Lay(%s): %d bytes, %d, not %d", shown(m), len(b), e, want)
		}
		if got := memb.Recs(m); !slices.Equal(got, recsWanted(m)) {
			t.Errorf("Recs(%s) = %q", shown(m), got)
		}
		if e != api.OK {
			return
		}
		if string(b) != laidWanted(t, m) {
			t.Errorf("Lay(%s) = %.900q", shown(m), b)
		}
		if got, e := readBack(t, b); !memb.Same(got, m) || e != api.OK {
			t.Errorf("%s is read as %s, %d", shown(m), shown(got), e)
		}
	})
}

// FuzzFrom takes anything: what is taken may be, and is nothing beside an error.
func FuzzFrom(f *testing.F) { // R1, P8.2
	f.Add("top", "name", byte('0'), int64(1), int64(2), "to", "path", "a", []byte("b"))
	f.Add("", "name", byte('1'), int64(1), int64(2), "to", "linkpath", "a", []byte("b"))
	f.Add("", "", byte('x'), int64(-1), int64(2), "\x00", "linkpath", "", []byte{})
	f.Fuzz(func(t *testing.T, prefix, name string, c byte, mode, size int64, link, key, value string, data []byte) {
		h := head.Header{Prefix: prefix, Name: name, Meta: api.Meta{Mode: mode}, Size: size, Type: c, Link: link}
		want := api.Member{Path: name, Kind: memb.Kind(c), Meta: h.Meta}
		if prefix != "" {
			want.Path = prefix + "/" + name
		}
		if key == "path" {
			want.Path = value
		}
		switch {
		case c == '0':
			want.Data = data
		case key == "linkpath" && (c == '1' || c == '2'):
			want.Link = value
		case c == '1' || c == '2':
			want.Link = link
		}
		wantErr := mayWanted(want)
		if want.Kind == 0 {
			wantErr = api.ErrKind
		}
		if wantErr != api.OK {
			want = api.Member{}
		}
		taken(t, h, []recs.Rec{{Key: key, Value: value}}, data, want, wantErr)
	})
}
