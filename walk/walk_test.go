package walk_test

import (
	"bytes"
	"crypto/sha256"
	"fmt"
	"math"
	"math/rand"
	"slices"
	"strings"
	"testing"

	"thwart/api"
	"thwart/arch"
	"thwart/digest"
	"thwart/memb"
	"thwart/node"
	"thwart/tree"
	"thwart/walk"
)

var (
	some  = api.Meta{Mode: 0o644, Uid: 7, Gid: 8, Mtime: 9}
	other = api.Meta{Mode: 4095, Uid: 1<<40 - 1, Gid: 1<<40 - 1, Mtime: -(1 << 50)}
	third = api.Meta{Mode: 1, Mtime: 1 << 50}
)

// of is a text of n signs.
func of(n int) string {
	return strings.Repeat("n", n)
}

// file, hard, sym and dir are members of the numbers some.
func file(p string) api.Member { return api.Member{Path: p, Kind: api.File, Meta: some} }
func hard(p, link string) api.Member {
	return api.Member{Path: p, Kind: api.Hard, Meta: some, Link: link}
}
func sym(p, link string) api.Member {
	return api.Member{Path: p, Kind: api.Sym, Meta: some, Link: link}
}
func dir(p string) api.Member { return api.Member{Path: p, Kind: api.Dir, Meta: some} }

// with is a member that has other numbers.
func with(m api.Member, meta api.Meta) api.Member {
	m.Meta = meta
	return m
}

// must fails, if one of the calls that make a tree answered an error.
func must(t *testing.T, l ...api.Errno) {
	t.Helper()
	for at, e := range l {
		if e != api.OK {
			t.Fatalf("call %d answers %d", at, e)
		}
	}
}

// told tells all of members; bytes that are nil as those that are empty.
func told(l ...api.Member) string {
	var b strings.Builder
	for _, m := range l {
		fmt.Fprintf(&b, "[%q %d %v %q %q]", m.Path, m.Kind, m.Meta, m.Link, m.Data)
	}
	return b.String()
}

// copied is a list that shares nothing with another one.
func copied(l []api.Member) []api.Member {
	l = slices.Clone(l)
	for at := range l {
		l[at].Data = slices.Clone(l[at].Data)
	}
	return l
}

// numbered are n files whose paths rise.
func numbered(n int) []api.Member {
	var l []api.Member
	for at := range n {
		l = append(l, file(fmt.Sprintf("a%03d", at)))
	}
	return l
}

// grownList is a right list of all kinds; grown is a tree of it.
func grownList() []api.Member {
	return []api.Member{
		{Path: "c", Kind: api.File, Meta: third, Data: []byte("abc")},
		{Path: "d", Kind: api.Dir, Meta: some},
		{Path: "d/e", Kind: api.Dir, Meta: other},
		{Path: "d/e/f", Kind: api.Hard, Meta: third, Link: "c"},
		{Path: "d/e.f", Kind: api.Hard, Meta: third, Link: "c"},
		{Path: "d/h", Kind: api.File, Meta: some, Data: []byte(of(4096))},
		{Path: "d/s", Kind: api.Sym, Meta: other, Link: "../" + of(297)},
		{Path: "e", Kind: api.Dir},
		{Path: "empty", Kind: api.File, Meta: other},
		{Path: "s", Kind: api.Sym, Link: "d"},
		{Path: "z", Kind: api.Hard, Meta: some, Link: "d/h"},
	}
}

func grown(t *testing.T) *node.Tree {
	t.Helper()
	x := node.New(64, 9999)
	must(t, x.Set("", other))
	grow(t, x, grownList())
	return x
}

func grow(t *testing.T, x *node.Tree, l []api.Member) {
	t.Helper()
	for _, m := range l {
		switch m.Kind {
		case api.File:
			must(t, x.Create(m.Path, m.Meta, m.Data))
		case api.Hard:
			must(t, x.Link(m.Path, m.Link))
		case api.Sym:
			must(t, x.Sym(m.Path, m.Meta, m.Link))
		case api.Dir:
			must(t, x.Mkdir(m.Path, m.Meta))
		}
	}
}

// checks holds Check against what is wanted.
func checks(t *testing.T, l []api.Member, place int, want api.Errno) {
	t.Helper()
	if n, e := walk.Check(l); n != place || e != want {
		t.Errorf("Check(%s) = %d, %d, not %d, %d", told(l...), n, e, place, want)
	}
}

func TestCheckRight(t *testing.T) { // P16.1, R5
	checks(t, nil, 0, api.OK)
	checks(t, []api.Member{}, 0, api.OK)
	l := grownList()
	for n := range len(l) + 1 {
		checks(t, l[:n], n, api.OK)
	}
	for _, l := range [][]api.Member{
		{file("a")},
		{sym("a", "nowhere")},
		{sym("a", "a")}, // a Sym's link may be any text
		{dir("a"), dir("a/b"), dir("a/b/c"), file("a/b/c/d")},
		// Paths rise name by name, not byte by byte.
		{dir("a"), file("a/b"), file("a.b")},
		{dir("a"), dir("a/b"), file("a/b/z"), file("a/b c"), file("a b")},
		{file("A"), file("a"), file("a "), file("aa"), file("b"), file("\xff")},
		{dir("a"), longest("b"), dir("c"), file("c/a"), hard("d", "c/a")},
		// A Hard ahead of others, in a Dir, and several of one File.
		{file("a"), hard("b", "a"), dir("c"), hard("c/a", "a"), hard("c/b", "a"), hard("d", "a")},
		// Bytes play no part in whether a Hard is right.
		{{Path: "a", Kind: api.File, Meta: some, Data: []byte("a")}, hard("b", "a")},
	} {
		checks(t, l, len(l), api.OK)
	}
}

// longest is a file of as many bytes as may be.
func longest(p string) api.Member {
	return api.Member{Path: p, Kind: api.File, Meta: other, Data: make([]byte, api.MaxFile)}
}

func TestCheckErrors(t *testing.T) { // P16.1
	for _, c := range []struct {
		l     []api.Member
		place int
		want  api.Errno
	}{
		{[]api.Member{dir("a/b")}, 0, api.ErrNone}, // the chapter's example

		// Layer 8's.
		{[]api.Member{{}}, 0, api.ErrPath},
		{[]api.Member{dir("a"), dir("a/")}, 1, api.ErrPath},
		{[]api.Member{dir("/")}, 0, api.ErrPath},
		{[]api.Member{dir("a"), dir("a/..")}, 1, api.ErrPath},
		{[]api.Member{file("a"), file(of(61))}, 1, api.ErrPath},
		{[]api.Member{{Path: "a"}}, 0, api.ErrKind},
		{[]api.Member{{Path: "a", Kind: 5}}, 0, api.ErrKind},
		{[]api.Member{with(dir("a"), api.Meta{Mode: 4096})}, 0, api.ErrBig},
		{[]api.Member{{Path: "a", Kind: api.File, Data: make([]byte, 4097)}}, 0, api.ErrBig},
		{[]api.Member{{Path: "a", Kind: api.File, Link: "b"}}, 0, api.ErrForm},
		{[]api.Member{file("a"), hard("b", "/a")}, 1, api.ErrPath},
		{[]api.Member{file("a"), hard("b", "")}, 1, api.ErrPath},
		{[]api.Member{sym("a", "")}, 0, api.ErrForm},
		{[]api.Member{sym("a", of(301))}, 0, api.ErrBig},
		{[]api.Member{{Path: "a", Kind: api.Dir, Data: []byte("b")}}, 0, api.ErrForm},

		// What stands ahead.
		{[]api.Member{file("a"), file("a")}, 1, api.ErrThere},
		{[]api.Member{dir("a"), file("a")}, 1, api.ErrThere},
		{[]api.Member{dir("a"), file("a/b"), sym("a/b", "c")}, 2, api.ErrThere},
		{[]api.Member{file("b"), file("a")}, 1, api.ErrForm},
		{[]api.Member{file("a"), file("b"), file("a")}, 2, api.ErrForm}, // it is there, but not just ahead
		{[]api.Member{dir("a"), file("a/b"), dir("a")}, 2, api.ErrForm},
		{[]api.Member{dir("a"), file("a.b"), file("a/b")}, 2, api.ErrForm},
		{[]api.Member{dir("a"), dir("a b"), file("a/b")}, 2, api.ErrForm},
		{[]api.Member{file("aa"), file("a")}, 1, api.ErrForm},
		{[]api.Member{file("a"), file("B")}, 1, api.ErrForm},

		// Parents.
		{[]api.Member{dir("a"), dir("a/b/c")}, 1, api.ErrNone},
		{[]api.Member{dir("a"), dir("a/b"), dir("b"), file("b/b/c")}, 3, api.ErrNone},
		{[]api.Member{file("a"), dir("a/b")}, 1, api.ErrNone},
		{[]api.Member{sym("a", "b"), dir("a/b")}, 1, api.ErrNone},
		{[]api.Member{file("a"), hard("b", "a"), dir("b/c")}, 2, api.ErrNone},
		{[]api.Member{dir("ab"), file("abc/d")}, 1, api.ErrNone},
		{[]api.Member{file("a/b"), dir("a")}, 0, api.ErrNone},

		// Links.
		{[]api.Member{hard("a", "b")}, 0, api.ErrNone},
		{[]api.Member{hard("a", "a")}, 0, api.ErrNone},
		{[]api.Member{hard("a", "b"), file("b")}, 0, api.ErrNone},
		{[]api.Member{file("a"), hard("b", "a"), hard("c", "d"), file("d")}, 2, api.ErrNone},
		{[]api.Member{dir("a"), file("a/b"), hard("c", "b")}, 2, api.ErrNone},
		{[]api.Member{dir("a"), file("a/b"), hard("a/c", "b")}, 2, api.ErrNone},
		{[]api.Member{dir("a"), hard("b", "a")}, 1, api.ErrForm},
		{[]api.Member{sym("a", "b"), hard("b", "a")}, 1, api.ErrForm},
		{[]api.Member{file("a"), hard("b", "a"), hard("c", "b")}, 2, api.ErrForm},
		{[]api.Member{file("a"), with(hard("b", "a"), other)}, 1, api.ErrForm},
		{[]api.Member{file("a"), with(file("b"), other), hard("c", "b")}, 2, api.ErrForm},

		// Of several the one named first.
		{[]api.Member{file("a"), with(file("a"), api.Meta{Mode: -1})}, 1, api.ErrBig},
		{[]api.Member{file("b"), {Path: "a", Kind: 9}}, 1, api.ErrKind},
		{[]api.Member{{Path: "a/b", Kind: 9}}, 0, api.ErrKind},
		{[]api.Member{hard("a/b", "/")}, 0, api.ErrPath},
		{[]api.Member{file("a"), hard("a", "b")}, 1, api.ErrThere},
		{[]api.Member{dir("a"), hard("a", "a")}, 1, api.ErrThere},
		{[]api.Member{file("b"), file("a/b")}, 1, api.ErrForm},
		{[]api.Member{file("b"), hard("a", "c")}, 1, api.ErrForm},
		{[]api.Member{dir("a"), hard("b/c", "a")}, 1, api.ErrNone},
		{[]api.Member{file("a"), with(hard("b/c", "a"), other)}, 1, api.ErrNone},
		{[]api.Member{dir("a"), with(hard("b", "a"), other)}, 1, api.ErrForm},

		// Of several members the first one.
		{[]api.Member{hard("a", "b"), file("b"), file("b"), {}}, 0, api.ErrNone},
		{[]api.Member{file("b"), file("b"), file("a"), {}}, 1, api.ErrThere},
		{[]api.Member{file("b"), file("a"), file("a"), file("a/b")}, 1, api.ErrForm},
	} {
		checks(t, c.l, c.place, c.want)
		// What stands behind plays no part.
		checks(t, append(slices.Clone(c.l), file("z"), api.Member{}), c.place, c.want)
		// Right ones ahead move the place alone.
		checks(t, append([]api.Member{dir(" "), file(" /b")}, c.l...), c.place+2, c.want)
	}
}

func TestCheckNumbersOfHards(t *testing.T) { // P16.1
	for at, turn := range []func(*api.Meta){
		func(*api.Meta) {},
		func(m *api.Meta) { m.Mode++ },
		func(m *api.Meta) { m.Uid++ },
		func(m *api.Meta) { m.Gid++ },
		func(m *api.Meta) { m.Mtime++ },
	} {
		m := some
		turn(&m)
		place, want := 1, api.ErrForm
		if at == 0 {
			place, want = 2, api.OK
		}
		checks(t, []api.Member{file("a"), with(hard("b", "a"), m)}, place, want)
		checks(t, []api.Member{with(file("a"), m), hard("b", "a")}, place, want)
	}
}

func TestCheckMany(t *testing.T) { // P16.1
	for _, n := range []int{1, 63, 64} {
		checks(t, numbered(n), n, api.OK)
	}
	for _, n := range []int{65, 66, 128, 999} {
		checks(t, numbered(n), 64, api.ErrMany)
	}
	wrong := map[api.Errno]api.Member{
		api.ErrPath:  {},
		api.ErrKind:  {Path: "a", Kind: 9},
		api.ErrBig:   with(file("z"), api.Meta{Uid: -1}),
		api.ErrForm:  file("a"),
		api.ErrNone:  file("z/z"),
		api.ErrThere: {}, // it is made for each place
	}
	for want, m := range wrong {
		for _, n := range []int{63, 64, 65, 66} {
			for _, place := range []int{1, 7, 62, 63, 64, 65} {
				if place >= n {
					continue
				}
				l := numbered(n)
				if want == api.ErrThere {
					m = l[place-1]
				}
				l[place] = m
				// The first member that is not right is told, be there too many or not.
				if place < 64 {
					checks(t, l, place, want)
				} else {
					checks(t, l, 64, api.ErrMany)
				}
			}
		}
	}
}

// checkWanted tells by the chapter's words, each member held against all ahead
// of it.
func checkWanted(l []api.Member) (int, api.Errno) {
	for at, m := range l {
		ahead := func(p string) (api.Member, bool) {
			for _, x := range l[:at] {
				if x.Path == p {
					return x, true
				}
			}
			return api.Member{}, false
		}
		if at == 64 {
			return at, api.ErrMany
		}
		if e := memb.May(m); e != api.OK {
			return at, e
		}
		names := strings.Split(m.Path, "/")
		if at > 0 {
			switch slices.Compare(strings.Split(l[at-1].Path, "/"), names) {
			case 0:
				return at, api.ErrThere
			case 1:
				return at, api.ErrForm
			}
		}
		if len(names) > 1 {
			if x, ok := ahead(strings.Join(names[:len(names)-1], "/")); !ok || x.Kind != api.Dir {
				return at, api.ErrNone
			}
		}
		if m.Kind != api.Hard {
			continue
		}
		x, ok := ahead(m.Link)
		if !ok {
			return at, api.ErrNone
		}
		if x.Kind != api.File || fmt.Sprint(x.Meta) != fmt.Sprint(m.Meta) {
			return at, api.ErrForm
		}
	}
	return len(l), api.OK
}

// listByChance is a list whose members rise and have parents, most of them; and
// some are turned.
func listByChance(r *rand.Rand) []api.Member {
	names := []string{"a", "b", "a.b", "A", "a b", "\xff", "é", ".a"}
	paths := []string{}
	for range 1 + r.Intn(40) {
		p := names[r.Intn(len(names))]
		if len(paths) > 0 && r.Intn(3) > 0 {
			p = paths[r.Intn(len(paths))] + "/" + p
		}
		if r.Intn(40) == 0 || !slices.Contains(paths, p) {
			paths = append(paths, p)
		}
	}
	if r.Intn(10) > 0 {
		slices.SortStableFunc(paths, func(a, b string) int { return slices.Compare(strings.Split(a, "/"), strings.Split(b, "/")) })
	}
	var l []api.Member
	for _, p := range paths {
		if r.Intn(60) == 0 {
			continue
		}
		m := api.Member{Path: p, Kind: 1 + r.Intn(4), Meta: api.Meta{Mode: int64(r.Intn(100) / 99)}}
		if slices.ContainsFunc(paths, func(q string) bool { return strings.HasPrefix(q, p+"/") }) && r.Intn(50) > 0 {
			m.Kind = api.Dir
		}
		switch m.Kind {
		case api.File:
			m.Data = []byte(of(r.Intn(3)))
		case api.Hard:
			m.Link = paths[r.Intn(len(paths))]
			for at := 0; at < len(l) && r.Intn(20) > 0; at++ {
				if l[at].Kind == api.File {
					m.Link, m.Meta = l[at].Path, l[at].Meta
				}
			}
		case api.Sym:
			m.Link = paths[r.Intn(len(paths))]
		}
		switch r.Intn(300) {
		case 0:
			m.Kind = r.Intn(7)
		case 1:
			m.Meta.Mtime = 1<<50 + 1
		case 2:
			m.Path += "/"
		case 3:
			m.Data = []byte("x")
		case 4:
			m.Link = ""
		case 5:
			m.Meta.Gid = 1
		}
		l = append(l, m)
	}
	return l
}

func TestCheckByChance(t *testing.T) { // P16.1
	r := rand.New(rand.NewSource(16))
	met := map[api.Errno]int{}
	for range 40000 {
		l := listByChance(r)
		place, want := checkWanted(l)
		checks(t, l, place, want)
		met[want]++
		if t.Failed() {
			return
		}
	}
	for _, e := range []api.Errno{api.OK, api.ErrPath, api.ErrKind, api.ErrBig, api.ErrForm, api.ErrNone, api.ErrThere} {
		if met[e] < 300 {
			t.Errorf("%d by chance %d times alone", e, met[e])
		}
	}
}

// archived is the archive of members that may be.
func archived(l []api.Member) []byte {
	var b []byte
	for _, m := range l {
		laid, e := memb.Lay(m)
		if e != api.OK {
			panic(told(m))
		}
		b = append(b, laid...)
	}
	return append(b, make([]byte, 1024)...)
}

// walks holds what is told of a tree against the list that is wanted.
func walks(t *testing.T, x *node.Tree, root string, want []api.Member) {
	t.Helper()
	l, e := walk.Members(x, root)
	if e != api.OK || told(l...) != told(want...) {
		t.Errorf("Members(%q) = %s, %d, not %s", root, told(l...), e, told(want...))
	}
	b, e := walk.Stream(x, root)
	if e != api.OK || !bytes.Equal(b, archived(want)) {
		t.Errorf("Stream(%q) = %d bytes, %d, not the archive of %s", root, len(b), e, told(want...))
	}
	sum, n, e := walk.Sum(x, root)
	if e != api.OK || n != len(b) || sum != sha256.Sum256(b) {
		t.Errorf("Sum(%q) = %x, %d, %d, not %x, %d", root, sum, n, e, sha256.Sum256(b), len(b))
	}
	if back, e := arch.Parse(b); e != api.OK || told(back...) != told(want...) {
		t.Errorf("Stream(%q) is read as %s, %d, not %s", root, told(back...), e, told(want...))
	}
	checks(t, l, len(want), api.OK) // P16.4
}

// walksNot looks that nothing but an error is told.
func walksNot(t *testing.T, x *node.Tree, root string, want api.Errno) {
	t.Helper()
	if l, e := walk.Members(x, root); len(l) != 0 || e != want {
		t.Errorf("Members(%q) = %d members, %d, not %d", root, len(l), e, want)
	}
	if b, e := walk.Stream(x, root); len(b) != 0 || e != want {
		t.Errorf("Stream(%q) = %d bytes, %d, not %d", root, len(b), e, want)
	}
	if sum, n, e := walk.Sum(x, root); sum != (digest.Sum{}) || n != 0 || e != want {
		t.Errorf("Sum(%q) = %x, %d, %d, not %d", root, sum, n, e, want)
	}
}

func TestWalk(t *testing.T) { // P16.2, P16.4
	x := grown(t)
	walks(t, x, "", grownList())
	walks(t, x, "d", []api.Member{
		{Path: "e", Kind: api.Dir, Meta: other},
		{Path: "e/f", Kind: api.File, Meta: third, Data: []byte("abc")},
		{Path: "e.f", Kind: api.Hard, Meta: third, Link: "e/f"},
		{Path: "h", Kind: api.File, Meta: some, Data: []byte(of(4096))},
		{Path: "s", Kind: api.Sym, Meta: other, Link: "../" + of(297)},
	})
	walks(t, x, "d/e", []api.Member{{Path: "f", Kind: api.File, Meta: third, Data: []byte("abc")}})
	walks(t, x, "e", nil)
	walks(t, node.New(0, 0), "", nil)
}

func TestWalkNothing(t *testing.T) { // P16.2
	b, e := walk.Stream(node.New(0, 0), "")
	if e != api.OK || !bytes.Equal(b, make([]byte, 1024)) {
		t.Errorf("Stream of nothing = %d bytes, %d", len(b), e)
	}
	sum, n, e := walk.Sum(node.New(0, 0), "")
	if got := fmt.Sprintf("%x", sum[:4]); got != "5f70bf18" || n != 1024 || e != api.OK {
		t.Errorf("Sum of nothing = %s.., %d, %d", got, n, e)
	}
}

func TestWalkErrors(t *testing.T) { // P16.2, R1
	x := grown(t)
	for root, want := range map[string]api.Errno{
		"x": api.ErrNone, "d/x": api.ErrNone, "x/e": api.ErrNone,
		"c": api.ErrNotDir, "c/x": api.ErrNotDir, "s": api.ErrNotDir, "s/e": api.ErrNotDir, "z": api.ErrNotDir,
		"/": api.ErrPath, "d/": api.ErrPath, "..": api.ErrPath, "d//e": api.ErrPath, "\x00": api.ErrPath, of(61): api.ErrPath,
	} {
		walksNot(t, x, root, want)
	}
	for _, x := range []*node.Tree{nil, {}} {
		for _, root := range []string{"", "d", "/"} {
			walksNot(t, x, root, api.ErrNil)
		}
	}
}

func TestWalkMany(t *testing.T) { // P16.2, P16.4
	// 64 under d, 65 in all.
	x := node.New(99, 0)
	must(t, x.Mkdir("d", some))
	for _, m := range numbered(64) {
		must(t, x.Create("d/"+m.Path, m.Meta, nil))
	}
	walks(t, x, "d", numbered(64))
	walksNot(t, x, "", api.ErrMany)
	// It is members that count, not nodes.
	must(t, x.Remove("d/a063"), x.Link("d/b", "d/a000"))
	walks(t, x, "d", append(numbered(63), hard("b", "a000")))
	must(t, x.Link("d/c", "d/b"))
	walksNot(t, x, "d", api.ErrMany)
	walksNot(t, x, "", api.ErrMany)
	must(t, x.Clear("d"), x.Mkdir("e", some))
	walks(t, x, "", []api.Member{dir("e")})

	// A path that is too long is told of first.
	x = node.New(999, 0)
	p := "t"
	must(t, x.Mkdir(p, some))
	for range 100 {
		p += "/a"
		must(t, x.Mkdir(p, some))
	}
	walksNot(t, x, "", api.ErrMany)
	must(t, x.Mkdir(of(60), some), x.Mkdir(of(60)+"/"+of(60), some), x.Rename("t", of(60)+"/"+of(60)+"/t"))
	walksNot(t, x, "", api.ErrPath)
	walksNot(t, x, of(60)+"/"+of(60), api.ErrPath)
}

func TestWalkGreatest(t *testing.T) { // P16.2, P16.4
	// The greatest members that a tree has, as many as may be.
	x := node.New(64, 64*4096)
	long := strings.Repeat(of(59)+"/", 4)
	var l []api.Member
	for at := range 4 {
		l = append(l, with(dir(long[:60*at+59]), other))
	}
	for at := range 58 {
		l = append(l, api.Member{Path: fmt.Sprintf("%s%060d", long, at), Kind: api.File, Meta: other, Data: bytes.Repeat([]byte{byte(at)}, 4096)})
	}
	l = append(l, with(hard(long+of(60), l[4].Path), other), with(sym(long+"s", of(300)), third))
	grow(t, x, l)
	if len(l) != 64 || len(l[4].Path) != 300 {
		t.Fatalf("%d members, a path of %d bytes", len(l), len(l[4].Path))
	}
	walks(t, x, "", l)
	if n := arch.Len(l); n <= 1<<17 {
		t.Errorf("the greatest archive has %d bytes alone", n)
	}
}

// treeByChance is a tree that many calls made; what they answer plays no part.
func treeByChance(r *rand.Rand) *node.Tree {
	x := node.New(99, 999)
	names := []string{"a", "b", "a.b", "A", "a b", "\xff", of(60)}
	path := func() string {
		p := names[r.Intn(len(names))]
		for range r.Intn(4) {
			p += "/" + names[r.Intn(len(names))]
		}
		return p
	}
	paths := []string{"a"}
	for range 20 + r.Intn(1500) {
		m := api.Meta{Mode: int64(r.Intn(4)), Mtime: int64(r.Intn(4))}
		p := path()
		switch r.Intn(8) {
		case 0, 1, 2:
			x.Mkdir(p, m)
		case 3, 4:
			if x.Create(p, m, []byte(of(r.Intn(9)))) == api.OK {
				paths = append(paths, p)
			}
		case 5:
			x.Link(p, paths[r.Intn(len(paths))])
		case 6:
			x.Sym(p, m, path())
		case 7:
			x.Rename(p, path())
		}
	}
	return x
}

func TestWalkByChance(t *testing.T) { // P16.2, P16.4
	r := rand.New(rand.NewSource(16))
	met := map[api.Errno]int{}
	hards := 0
	for range 600 {
		x := treeByChance(r)
		roots := []string{""}
		names, _ := x.List("")
		for _, name := range names {
			if i, _ := x.Get(name); i.Kind == api.Dir {
				roots = append(roots, name)
			}
		}
		for _, root := range roots {
			l, e := tree.Of(x, root)
			if e == api.OK && len(l) > 64 {
				e = api.ErrMany
			}
			met[e]++
			if e != api.OK {
				walksNot(t, x, root, e)
				continue
			}
			walks(t, x, root, l)
			for _, m := range l {
				if m.Kind == api.Hard {
					hards++
				}
			}
		}
		if t.Failed() {
			return
		}
	}
	if met[api.OK] < 900 || met[api.ErrMany] < 50 || hards < 900 {
		t.Errorf("too few by chance: %v, %d Hards", met, hards)
	}
}

// laidLists are lists that layer 9 does not refuse, right or not.
func laidLists() [][]api.Member {
	return [][]api.Member{
		nil,
		{},
		grownList(),
		numbered(1),
		numbered(64),
		{dir("a/b")},
		{file("b"), file("a")},
		{file("a"), file("a"), hard("c", "d"), hard("c", "c")},
		{longest("z"), sym("y", of(300)), longest(strings.Repeat("x/", 149) + "xx"), dir("a")},
	}
}

// refusedLists are lists that layer 9 refuses.
func refusedLists() [][]api.Member {
	l := [][]api.Member{numbered(65), numbered(999), make([]api.Member, 65), {{}}, {{Path: "a", Kind: 9}}}
	for at := range grownList() {
		x := grownList()
		x[at].Meta.Uid = -1
		l = append(l, x)
	}
	return l
}

func TestMarks(t *testing.T) { // P16.3
	for _, l := range laidLists() {
		want := []int{0}
		for _, m := range l {
			laid, _ := memb.Lay(m)
			want = append(want, want[len(want)-1]+len(laid))
		}
		if got := walk.Marks(l); !slices.Equal(got, want) {
			t.Errorf("Marks(%s) = %v, not %v", told(l...), got, want)
		}
	}
	for _, l := range refusedLists() {
		if got := walk.Marks(l); len(got) != 0 {
			t.Errorf("Marks(%s) = %v", told(l...), got)
		}
	}
	want := []int{0, 512, 1536, 2048} // a Dir, a File of one byte, a Hard
	l := []api.Member{dir("a"), {Path: "a/b", Kind: api.File, Data: []byte("x")}, {Path: "c", Kind: api.Hard, Link: "a/b"}}
	if got := walk.Marks(l); !slices.Equal(got, want) {
		t.Errorf("Marks = %v, not %v", got, want)
	}
}

func TestUpto(t *testing.T) { // P16.3
	for _, l := range laidLists() {
		marks := []int{}
		at := 0
		for _, m := range l {
			laid, _ := memb.Lay(m)
			at += len(laid)
			marks = append(marks, at)
		}
		for n, mark := range append([]int{0}, marks...) {
			// At a mark, beside it, and up to the next one.
			for end, want := range map[int]int{mark - 1: max(n-1, 0), mark: n, mark + 1: n, mark + 511: n} {
				if got := walk.Upto(l, end); got != want {
					t.Errorf("Upto(%s, %d) = %d, not %d", told(l...), end, got, want)
				}
			}
		}
		for end, want := range map[int]int{math.MinInt: 0, -1: 0, -512: 0, at + 1024: len(l), at + 1025: len(l), math.MaxInt: len(l)} {
			if got := walk.Upto(l, end); got != want {
				t.Errorf("Upto(%s, %d) = %d, not %d", told(l...), end, got, want)
			}
		}
	}
	for _, l := range refusedLists() {
		for _, end := range []int{math.MinInt, -1, 0, 512, 1 << 20, math.MaxInt} {
			if got := walk.Upto(l, end); got != 0 {
				t.Errorf("Upto(%s, %d) = %d", told(l...), end, got)
			}
		}
	}
}

func TestUptoIsOfMarks(t *testing.T) { // P16.3
	l := grownList()
	marks := walk.Marks(l)
	for n := range len(l) + 1 {
		if got := walk.Upto(l, marks[n]); got != n {
			t.Errorf("Upto at mark %d = %d", n, got)
		}
		if b := archived(l[:n]); len(b)-1024 != marks[n] {
			t.Errorf("mark %d is %d, not %d", n, marks[n], len(b)-1024)
		}
	}
}

func TestNothingIsTurned(t *testing.T) { // R3, R4
	l := grownList()
	before := told(l...)
	for range 2 {
		checks(t, l, len(l), api.OK)
		clear(walk.Marks(l))
		if got := walk.Marks(l); len(got) != len(l)+1 || got[1] != 1024 {
			t.Errorf("Marks behind others = %v", got)
		}
		walk.Upto(l, 5000)
		wrong := append(copied(l), l[3], api.Member{})
		was := told(wrong...)
		checks(t, wrong, len(l), api.ErrForm)
		walk.Marks(wrong)
		walk.Upto(wrong, 1)
		if got := told(wrong...); got != was {
			t.Errorf("a list was turned to %s", got)
		}
	}
	if got := told(l...); got != before {
		t.Errorf("a list was turned to %s", got)
	}
	x := grown(t)
	for range 2 {
		walks(t, x, "", l)
		members, _ := walk.Members(x, "")
		for _, m := range members {
			clear(m.Data)
		}
		clear(members)
		b, _ := walk.Stream(x, "")
		clear(b)
	}
}
