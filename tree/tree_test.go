package tree_test

import (
	"fmt"
	"math/rand"
	"slices"
	"strings"
	"testing"

	"thwart/api"
	"thwart/memb"
	"thwart/node"
	"thwart/ppath"
	"thwart/tree"
)

var (
	some  = api.Meta{Mode: 0o644, Uid: 7, Gid: 8, Mtime: 9}
	other = api.Meta{Mode: 4095, Uid: 1<<40 - 1, Gid: 2, Mtime: -(1 << 50)}
	third = api.Meta{Mode: 1, Mtime: 1 << 50}
)

// of is a text of n signs.
func of(n int) string {
	return strings.Repeat("n", n)
}

// longPath is a path of n bytes, whose names have one byte each; n is odd.
func longPath(n int) string {
	return strings.Repeat("a/", n/2) + "a"
}

// must fails, if one of the calls that make a tree answered an error.
func must(t *testing.T, l ...api.Errno) {
	t.Helper()
	for at, e := range l {
		if e != api.OK {
			t.Fatalf("call %d answers %d", at, e)
		}
	}
}

// told tells all of members; bytes that are nil as those that are empty.
func told(l ...api.Member) string {
	var b strings.Builder
	for _, m := range l {
		fmt.Fprintf(&b, "[%q %d %v %q %q]", m.Path, m.Kind, m.Meta, m.Link, m.Data)
	}
	return b.String()
}

// grown is a tree of all kinds, with files that have several paths.
func grown(t *testing.T) *node.Tree {
	x := node.New(64, 4096)
	must(t,
		x.Set("", other),
		x.Mkdir("d", some),
		x.Mkdir("d/e", other),
		x.Create("d/e/f", third, []byte("abc")),
		x.Link("d/e.f", "d/e/f"),
		x.Link("c", "d/e/f"),
		x.Create("d/g", some, []byte("de")),
		x.Create("d/h", some, []byte("de")),
		x.Link("z", "d/h"),
		x.Sym("d/s", other, "../c"),
		x.Sym("s", api.Meta{}, "d"),
		x.Create("empty", third, nil),
		x.Mkdir("e", api.Meta{}),
	)
	return x
}

func TestOf(t *testing.T) { // P15.1
	x := grown(t)
	for root, want := range map[string][]api.Member{
		"": {
			{Path: "c", Kind: api.File, Meta: third, Data: []byte("abc")},
			{Path: "d", Kind: api.Dir, Meta: some},
			{Path: "d/e", Kind: api.Dir, Meta: other},
			{Path: "d/e/f", Kind: api.Hard, Meta: third, Link: "c"},
			{Path: "d/e.f", Kind: api.Hard, Meta: third, Link: "c"},
			{Path: "d/g", Kind: api.File, Meta: some, Data: []byte("de")},
			{Path: "d/h", Kind: api.File, Meta: some, Data: []byte("de")},
			{Path: "d/s", Kind: api.Sym, Meta: other, Link: "../c"},
			{Path: "e", Kind: api.Dir},
			{Path: "empty", Kind: api.File, Meta: third},
			{Path: "s", Kind: api.Sym, Link: "d"},
			{Path: "z", Kind: api.Hard, Meta: some, Link: "d/h"},
		},
		// c and z do not lie under it: each file's first path is another one here.
		"d": {
			{Path: "e", Kind: api.Dir, Meta: other},
			{Path: "e/f", Kind: api.File, Meta: third, Data: []byte("abc")},
			{Path: "e.f", Kind: api.Hard, Meta: third, Link: "e/f"},
			{Path: "g", Kind: api.File, Meta: some, Data: []byte("de")},
			{Path: "h", Kind: api.File, Meta: some, Data: []byte("de")},
			{Path: "s", Kind: api.Sym, Meta: other, Link: "../c"},
		},
		"d/e": {{Path: "f", Kind: api.File, Meta: third, Data: []byte("abc")}},
		"e":   nil,
	} {
		if l, e := tree.Of(x, root); e != api.OK || told(l...) != told(want...) {
			t.Errorf("Of(%q) = %s, %d, not %s", root, told(l...), e, told(want...))
		}
	}
	if l, e := tree.Of(node.New(0, 0), ""); len(l) != 0 || e != api.OK {
		t.Errorf("Of of an empty tree = %v, %d", l, e)
	}
}

func TestOfExample(t *testing.T) { // P15.1
	x := node.New(9, 9)
	must(t, x.Mkdir("a", some), x.Create("c", other, []byte("x")), x.Link("a/b", "c"))
	want := []api.Member{
		{Path: "a", Kind: api.Dir, Meta: some},
		{Path: "a/b", Kind: api.File, Meta: other, Data: []byte("x")},
		{Path: "c", Kind: api.Hard, Meta: other, Link: "a/b"},
	}
	if l, e := tree.Of(x, ""); e != api.OK || told(l...) != told(want...) {
		t.Errorf("Of = %s, %d, not %s", told(l...), e, told(want...))
	}
}

// TestOfNumbers has files whose numbers are like those of other ones, and like
// places in the list.
func TestOfNumbers(t *testing.T) { // P15.1
	x := node.New(99, 99)
	var want []api.Member
	for _, mode := range []int64{0, 1, 2, 4094, 4095} {
		for mtime := range int64(9) {
			p := fmt.Sprintf("a%04d.%d", mode, mtime)
			m := api.Meta{Mode: mode, Mtime: mtime}
			must(t, x.Create(p, m, nil), x.Link("z"+p, p), x.Link("m"+p, p))
			want = append(want, api.Member{Path: p, Kind: api.File, Meta: m})
		}
	}
	for _, first := range []string{"m", "z"} {
		for _, m := range slices.Clone(want[:45]) {
			want = append(want, api.Member{Path: first + m.Path, Kind: api.Hard, Meta: m.Meta, Link: m.Path})
		}
	}
	if l, e := tree.Of(x, ""); e != api.OK || told(l...) != told(want...) {
		t.Errorf("Of = %s, %d, not %s", told(l...), e, told(want...))
	}
}

func TestOfErrors(t *testing.T) { // P15.1, R1
	x := grown(t)
	for root, want := range map[string]api.Errno{
		"x": api.ErrNone, "d/x": api.ErrNone, "x/e": api.ErrNone,
		"c": api.ErrNotDir, "c/x": api.ErrNotDir, "s": api.ErrNotDir, "s/e": api.ErrNotDir, "d/s": api.ErrNotDir,
		"/": api.ErrPath, "/d": api.ErrPath, "d/": api.ErrPath, ".": api.ErrPath, "d/..": api.ErrPath, "d//e": api.ErrPath,
		"\x00": api.ErrPath, of(61): api.ErrPath, longPath(301): api.ErrPath, longPath(299): api.ErrNone,
	} {
		if l, e := tree.Of(x, root); len(l) != 0 || e != want {
			t.Errorf("Of(%q) = %v, %d, not %d", root, l, e, want)
		}
	}
	for _, x := range []*node.Tree{nil, {}} {
		for _, root := range []string{"", "d", "/"} {
			if l, e := tree.Of(x, root); len(l) != 0 || e != api.ErrNil {
				t.Errorf("Of(nothing, %q) = %v, %d", root, l, e)
			}
		}
	}
}

// long is a tree with the path p, and the Dirs on the way to it, which may be
// longer than any call could make them: all under the first name is made on its
// own, and put there when it stands.
func long(t *testing.T, p string, kind int) *node.Tree {
	t.Helper()
	first, rest, _ := strings.Cut(p, "/")
	x := node.New(400, 9)
	must(t, x.Create("0", some, []byte("x")), x.Mkdir("t", some))
	for at := range len(rest) {
		if rest[at] == '/' {
			must(t, x.Mkdir("t/"+rest[:at], some))
		}
	}
	switch kind {
	case api.File:
		must(t, x.Create("t/"+rest, some, []byte("y")))
	case api.Hard:
		must(t, x.Link("t/"+rest, "0"))
	case api.Sym:
		must(t, x.Sym("t/"+rest, some, "0"))
	case api.Dir:
		must(t, x.Mkdir("t/"+rest, some))
	}
	must(t, x.Rename("t", first))
	return x
}

func TestOfLongPaths(t *testing.T) { // P15.1
	for _, kind := range []int{api.File, api.Hard, api.Sym, api.Dir} {
		for n := 296; n <= 310; n++ {
			p := of(12) + "/" + longPath(281) + of(n-294)
			x := long(t, p, kind)
			want := api.OK
			if len(p) > 300 {
				want = api.ErrPath
			}
			l, e := tree.Of(x, "")
			if len(p) != n || e != want || (e == api.OK) != (len(l) > 0) {
				t.Fatalf("Of with a path of %d bytes = %d members, %d, not %d", len(p), len(l), e, want)
			}
			if e == api.OK && (l[len(l)-1].Path != p || l[len(l)-1].Kind != kind) {
				t.Errorf("Of with a path of %d bytes ends by %v", len(p), l[len(l)-1])
			}
			// Paths are those of the tree, not what is seen of them from the root.
			if _, e := tree.Of(x, of(12)); e != want {
				t.Errorf("Of under a root, with a path of %d bytes = %d, not %d", len(p), e, want)
			}
			must(t, x.Mkdir("b", some))
			if l, e := tree.Of(x, "b"); len(l) != 0 || e != api.OK {
				t.Errorf("Of beside a path of %d bytes = %v, %d", len(p), l, e)
			}
		}
	}
}

// TestOfDeepTrees puts each Dir into a new one: they stand far deeper than any
// path goes.
func TestOfDeepTrees(t *testing.T) { // P15.1, R1
	x := node.New(30010, 9)
	must(t, x.Mkdir("a", some))
	for range 30000 {
		must(t, x.Mkdir("b", some), x.Rename("a", "b/a"), x.Rename("b", "a"))
	}
	if l, e := tree.Of(x, ""); len(l) != 0 || e != api.ErrPath {
		t.Errorf("Of = %d members, %d", len(l), e)
	}
}

// TestOfManyLinks has far too many files to hold each two of them against one
// another.
func TestOfManyLinks(t *testing.T) { // P15.1, R1
	const many = 40000
	x := node.New(many+9, 9)
	for n := range many {
		p := fmt.Sprintf("%05d", n)
		must(t, x.Create("b"+p, api.Meta{}, nil), x.Link("c"+p, "b"+p))
	}
	must(t, x.Create("a", api.Meta{}, nil))
	for n := range many {
		must(t, x.Link(fmt.Sprintf("d%05d", n), "a"))
	}
	l, e := tree.Of(x, "")
	if len(l) != 3*many+1 || e != api.OK {
		t.Fatalf("Of = %d members, %d", len(l), e)
	}
	for _, m := range l {
		want := api.Member{Path: m.Path, Kind: api.File}
		switch m.Path[0] {
		case 'c':
			want.Kind, want.Link = api.Hard, "b"+m.Path[1:]
		case 'd':
			want.Kind, want.Link = api.Hard, "a"
		}
		if !memb.Same(m, want) {
			t.Fatalf("Of has %v, not %v", m, want)
		}
	}
}

// text tells all that a tree has, its root too.
func text(t *node.Tree) string {
	nodes, bytes := t.Used()
	i, _ := t.Get("")
	return fmt.Sprint(nodes, bytes, i, told(wanted(t, "")...))
}

func TestNothingIsTurned(t *testing.T) { // R3, R4
	x := grown(t)
	before := text(x)
	l, _ := tree.Of(x, "")
	again, _ := tree.Of(x, "")
	if told(l...) != told(again...) {
		t.Errorf("Of twice: %s and %s", told(l...), told(again...))
	}
	tree.Equal(x, "", x, "d")
	for _, m := range l {
		clear(m.Data)
	}
	if got := text(x); got != before {
		t.Errorf("Of turns its tree: %s\nnot %s", got, before)
	}
	clear(l)
	if last, _ := tree.Of(x, ""); told(last...) != told(again...) {
		t.Errorf("what is done to an answer turns the next one: %s", told(last...))
	}
	m, _ := tree.Find(again, "c")
	clear(m.Data)
	if m, _ := tree.Find(again, "c"); string(m.Data) != "abc" {
		t.Errorf("Find gives the list's own bytes away: %q", m.Data)
	}
}

// wanted is the list by the chapter's words: all paths of the tree, sorted by
// their names, and each held against all ahead of it.
func wanted(t *node.Tree, root string) []api.Member {
	waits := []string{root}
	var paths []string
	for len(waits) > 0 {
		p := waits[0]
		waits = waits[1:]
		names, _ := t.List(p)
		for _, name := range names {
			under := name
			if p != "" {
				under = p + "/" + name
			}
			waits, paths = append(waits, under), append(paths, under)
		}
	}
	slices.SortFunc(paths, func(a, b string) int { return slices.Compare(strings.Split(a, "/"), strings.Split(b, "/")) })
	var l []api.Member
	for at, p := range paths {
		i, _ := t.Get(p)
		m := api.Member{Path: p, Kind: i.Kind, Meta: i.Meta, Link: i.Link, Data: i.Data}
		first := slices.IndexFunc(paths[:at+1], func(q string) bool { return t.Same(p, q) })
		if first < at {
			m.Kind, m.Link, m.Data = api.Hard, l[first].Path, nil
		}
		if root != "" {
			m.Path = p[len(root)+1:]
		}
		l = append(l, m)
	}
	return l
}

// chance is a tree that many calls made; what they answer plays no part.
func chance(r *rand.Rand) *node.Tree {
	x := node.New(40, 60)
	names := []string{"a", "b", "a.b", "A", "a b", "\xff", "é"}
	path := func() string {
		p := names[r.Intn(len(names))]
		for range r.Intn(4) {
			p += "/" + names[r.Intn(len(names))]
		}
		return p
	}
	for range 20 + r.Intn(200) {
		m := api.Meta{Mode: int64(r.Intn(4)), Mtime: int64(r.Intn(12))}
		p, data := path(), []byte(of(r.Intn(3)))
		switch r.Intn(8) {
		case 0, 1:
			x.Mkdir(p, m)
		case 2, 3:
			x.Create(p, m, data)
		case 4, 5:
			l, _ := tree.Of(x, "")
			for _, old := range l {
				if old.Kind == api.File && r.Intn(3) == 0 {
					x.Link(p, old.Path)
					break
				}
			}
		case 6:
			x.Sym(p, m, path())
		case 7:
			x.Rename(p, path())
		}
	}
	return x
}

// rises tells by the chapter's words what follows.
func rises(l []api.Member) error {
	for at, m := range l {
		has := func(kind int, p string) bool {
			return slices.ContainsFunc(l[:at], func(m api.Member) bool { return m.Kind == kind && m.Path == p })
		}
		slash := strings.LastIndexByte(m.Path, '/')
		switch {
		case at > 0 && !ppath.Less(l[at-1].Path, m.Path):
			return fmt.Errorf("%q is not behind %q", m.Path, l[at-1].Path)
		case slash >= 0 && !has(api.Dir, m.Path[:slash]):
			return fmt.Errorf("%q has no parent", m.Path)
		case m.Kind == api.Hard && !has(api.File, m.Link):
			return fmt.Errorf("%q has a link to what is no file ahead: %q", m.Path, m.Link)
		case memb.May(m) != api.OK:
			return fmt.Errorf("%q may be no member: %d", m.Path, memb.May(m))
		}
	}
	return nil
}

// made is a tree of a list.
func made(t *testing.T, l []api.Member, under string) *node.Tree {
	t.Helper()
	x := node.New(99, 9999)
	if under != "" {
		must(t, x.Mkdir(under, some), x.Create("beside", some, nil))
	}
	for _, m := range l {
		p := ppath.Join(under, m.Path)
		switch m.Kind {
		case api.File:
			must(t, x.Create(p, m.Meta, m.Data))
		case api.Hard:
			must(t, x.Link(p, ppath.Join(under, m.Link)))
		case api.Sym:
			must(t, x.Sym(p, m.Meta, m.Link))
		case api.Dir:
			must(t, x.Mkdir(p, m.Meta))
		}
	}
	return x
}

func TestByChance(t *testing.T) { // P15.1, P15.2, P15.3
	r := rand.New(rand.NewSource(15))
	kinds := map[int]int{}
	lists := 0
	for range 1500 {
		x := chance(r)
		for _, m := range append(wanted(x, ""), api.Member{Kind: api.Dir}) {
			if m.Kind != api.Dir {
				kinds[m.Kind]++
				continue
			}
			l, e := tree.Of(x, m.Path)
			want := wanted(x, m.Path)
			if e != api.OK || told(l...) != told(want...) {
				t.Fatalf("Of(%q) = %s, %d, not %s", m.Path, told(l...), e, told(want...))
			}
			if err := rises(l); err != nil {
				t.Fatalf("Of(%q) = %s: %v", m.Path, told(l...), err)
			}
			if !tree.Equal(x, m.Path, made(t, l, ""), "") || !tree.Equal(made(t, l, "u"), "u", x, m.Path) {
				t.Fatalf("a tree that is made of %s has another list", told(l...))
			}
			lists++
		}
	}
	if kinds[api.File] < 1000 || kinds[api.Hard] < 1000 || kinds[api.Sym] < 1000 || lists < 5000 {
		t.Errorf("too few by chance: %v, %d lists", kinds, lists)
	}
}

// turned are members that are all another one than m, each in one thing.
func turned(m api.Member) []api.Member {
	l := []api.Member{m, m, m, m, m, m, m, m}
	l[0].Path += "x"
	l[1].Kind++
	l[2].Meta.Mode++
	l[3].Meta.Uid++
	l[4].Meta.Gid++
	l[5].Meta.Mtime++
	l[6].Link += "x"
	l[7].Data = append(slices.Clone(m.Data), 'x')
	return l
}

// looks holds Same and Differ of two lists, both ways round, against what is
// wanted.
func looks(t *testing.T, a, b []api.Member, path, back string, differ bool) {
	t.Helper()
	if got := tree.Same(a, b); got == differ {
		t.Errorf("Same(%s, %s) = %t", told(a...), told(b...), got)
	}
	if got := tree.Same(b, a); got == differ {
		t.Errorf("Same(%s, %s) = %t", told(b...), told(a...), got)
	}
	if p, ok := tree.Differ(a, b); p != path || ok != differ {
		t.Errorf("Differ(%s, %s) = %q, %t, not %q, %t", told(a...), told(b...), p, ok, path, differ)
	}
	if p, ok := tree.Differ(b, a); p != back || ok != differ {
		t.Errorf("Differ(%s, %s) = %q, %t, not %q, %t", told(b...), told(a...), p, ok, back, differ)
	}
}

func TestSameDiffer(t *testing.T) { // P15.2, R5
	l, _ := tree.Of(grown(t), "")
	looks(t, nil, nil, "", "", false)
	looks(t, nil, []api.Member{}, "", "", false)
	for at, m := range l {
		looks(t, l[:at], slices.Clone(l[:at]), "", "", false)
		// One that ends is told by the other one's member.
		looks(t, l, l[:at], m.Path, m.Path, true)
		// Lists that differ behind the first place, too.
		looks(t, l[:at], l[at:], l[0].Path, l[at].Path, true)
		for _, x := range turned(m) {
			b := slices.Clone(l)
			b[at] = x
			looks(t, l, b, m.Path, x.Path, true)
			looks(t, l, b[:at+1], m.Path, x.Path, true)
			for i := at + 1; i < len(b); i++ {
				b[i].Path = "else"
			}
			looks(t, l, b, m.Path, x.Path, true)
		}
	}
	// The order plays a part.
	looks(t, []api.Member{l[0], l[1]}, []api.Member{l[1], l[0]}, l[0].Path, l[1].Path, true)
	// Bytes that are nil are those that are empty, and what may be no member is held against another one all the same.
	looks(t, []api.Member{{Path: "/"}}, []api.Member{{Path: "/", Data: []byte{}}}, "", "", false)
	looks(t, []api.Member{{}}, nil, "", "", true)
	looks(t, []api.Member{{}, {}}, []api.Member{{}, {Kind: 99}}, "", "", true)
}

func TestEqual(t *testing.T) { // P15.2
	x, y := grown(t), grown(t)
	same := func(want bool, a *node.Tree, p string, b *node.Tree, q string) {
		t.Helper()
		if got := tree.Equal(a, p, b, q); got != want {
			t.Errorf("Equal(%q, %q) = %t", p, q, got)
		}
		if got := tree.Equal(b, q, a, p); got != want {
			t.Errorf("Equal(%q, %q) = %t", q, p, got)
		}
	}
	same(true, x, "", y, "")
	same(true, x, "", x, "")
	same(true, x, "d", y, "d")
	same(true, x, "d", x, "d")
	same(false, x, "", y, "d")
	same(false, x, "d", y, "d/e")
	// Numbers of the root play no part.
	must(t, y.Set("", third), y.Set("d", third))
	same(true, x, "d", y, "d")
	same(false, x, "", y, "")
	must(t, y.Set("d", some))
	same(true, x, "", y, "")
	// Nothing is the same as nothing; what has no list is not.
	same(true, x, "e", node.New(0, 0), "")
	for _, p := range []string{"x", "c", "s", "/", "d/", longPath(301)} {
		same(false, x, p, y, p)
		same(false, x, p, y, "e")
		same(false, x, p, node.New(0, 0), "")
	}
	for _, none := range []*node.Tree{nil, {}} {
		same(false, none, "", none, "")
		same(false, none, "", node.New(9, 9), "")
	}
	deep := long(t, of(30)+"/"+longPath(285), api.File)
	same(false, deep, "", deep, "")
	same(false, deep, "", node.New(0, 0), "")
	// One change of all that a list tells.
	for what, turn := range map[string]func(y *node.Tree) api.Errno{
		"a number":       func(y *node.Tree) api.Errno { return y.Set("d/e", third) },
		"bytes":          func(y *node.Tree) api.Errno { return y.Write("d/g", []byte("dx")) },
		"a path more":    func(y *node.Tree) api.Errno { return y.Link("d/e/x", "z") },
		"a path less":    func(y *node.Tree) api.Errno { return y.Remove("d/e.f") },
		"another path":   func(y *node.Tree) api.Errno { return y.Rename("d/g", "d/i") },
		"another Sym":    func(y *node.Tree) api.Errno { y.Remove("d/s"); return y.Sym("d/s", other, "../d") },
		"another kind":   func(y *node.Tree) api.Errno { y.Remove("d/s"); return y.Mkdir("d/s", other) },
		"two for a Hard": func(y *node.Tree) api.Errno { y.Remove("d/e.f"); return y.Create("d/e.f", third, []byte("abc")) },
		"another Hard":   func(y *node.Tree) api.Errno { y.Remove("d/h"); return y.Link("d/h", "d/g") },
	} {
		y := grown(t)
		must(t, turn(y))
		if tree.Equal(x, "d", y, "d") || tree.Equal(x, "", y, "") {
			t.Errorf("Equal behind %s", what)
		}
		same(true, x, "e", y, "e")
	}
}

func TestFind(t *testing.T) { // P15.1, R5
	l, _ := tree.Of(grown(t), "")
	for _, want := range l {
		if m, ok := tree.Find(l, want.Path); !ok || told(m) != told(want) {
			t.Errorf("Find(%q) = %s, %t", want.Path, told(m), ok)
		}
	}
	for _, p := range []string{"", "x", "d/", "/d", "d/e/", "D", "d/e/f/", "cc"} {
		if m, ok := tree.Find(l, p); ok || told(m) != told(api.Member{}) {
			t.Errorf("Find(%q) = %s, %t", p, told(m), ok)
		}
	}
	// The first of several; also of what may be no path, and no member.
	twice := []api.Member{{Path: "b"}, {Path: "a", Kind: 9, Data: []byte("1")}, {Path: "a", Kind: api.Dir}, {Path: ""}, {Path: "/", Kind: 7}}
	for p, kind := range map[string]int{"a": 9, "b": 0, "": 0, "/": 7} {
		if m, ok := tree.Find(twice, p); !ok || m.Path != p || m.Kind != kind {
			t.Errorf("Find(%q) = %s, %t", p, told(m), ok)
		}
	}
	for _, l := range [][]api.Member{nil, {}} {
		if m, ok := tree.Find(l, ""); ok || m.Path != "" || m.Kind != 0 {
			t.Errorf("Find in nothing = %s, %t", told(m), ok)
		}
	}
}

func TestBytes(t *testing.T) { // P15.1
	l, _ := tree.Of(grown(t), "")
	under, _ := tree.Of(grown(t), "d")
	for want, l := range map[int][]api.Member{
		0: nil,
		7: l, // a file's bytes count once, however many paths it has
		4: {{Data: []byte("a")}, {Kind: api.Dir, Data: []byte("bc")}, {}, {Kind: api.Hard, Data: []byte("d")}},
		3: {{Data: []byte("abc")}},
	} {
		if got := tree.Bytes(l); got != want {
			t.Errorf("Bytes(%s) = %d, not %d", told(l...), got, want)
		}
	}
	if got := tree.Bytes(under); got != 7 {
		t.Errorf("Bytes(%s) = %d", told(under...), got)
	}
	if got := tree.Bytes([]api.Member{}); got != 0 {
		t.Errorf("Bytes of nothing = %d", got)
	}
}
