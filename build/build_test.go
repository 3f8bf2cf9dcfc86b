package build_test

import (
	"bytes"
	"fmt"
	"math"
	"math/rand"
	"slices"
	"strings"
	"testing"

	"thwart/api"
	"thwart/arch"
	"thwart/build"
	"thwart/disk"
	"thwart/memb"
	"thwart/node"
	"thwart/tree"
	"thwart/walk"
)

// The kinds of deeds, by layer 14's chapter.
const (
	mkdir  = 1
	create = 2
	sym    = 3
	link   = 4
)

var (
	some  = api.Meta{Mode: 0o644, Uid: 7, Gid: 8, Mtime: 9}
	other = api.Meta{Mode: 4095, Uid: 1<<40 - 1, Gid: 1<<40 - 1, Mtime: -(1 << 50)}
)

// of is a text of n signs.
func of(n int) string {
	return strings.Repeat("n", n)
}

// longPath is a path of n bytes; of an even n its last name has two.
func longPath(n int) string {
	p := strings.Repeat("a/", (n-1)/2)
	return p + of(n-len(p))
}

// file, hardOf, symOf and dir are members of the numbers some.
func file(p, data string) api.Member {
	return api.Member{Path: p, Kind: api.File, Meta: some, Data: []byte(data)}
}
func hardOf(p, old string) api.Member {
	return api.Member{Path: p, Kind: api.Hard, Meta: some, Link: old}
}
func symOf(p, to string) api.Member {
	return api.Member{Path: p, Kind: api.Sym, Meta: some, Link: to}
}
func dir(p string) api.Member { return api.Member{Path: p, Kind: api.Dir, Meta: some} }

// told tells all of a deed; bytes that are nil as those that are empty.
func told(x disk.Deed) string {
	return fmt.Sprintf("%d %q %q %v %q", x.Kind, x.P, x.Q, x.Meta, x.Data)
}

// toldAll tells all of deeds.
func toldAll(l []disk.Deed) string {
	var b strings.Builder
	for _, x := range l {
		fmt.Fprintln(&b, told(x))
	}
	return b.String()
}

// text tells all that a disk has, durable and not.
func text(d *disk.Disk) string {
	var b strings.Builder
	for _, t := range []*node.Tree{d.View(), d.Durable()} {
		l, e := tree.Of(t, "")
		fmt.Fprintln(&b, e)
		for _, m := range l {
			fmt.Fprintf(&b, "%q %d %v %q %q\n", m.Path, m.Kind, m.Meta, m.Link, m.Data)
		}
	}
	return b.String() + toldAll(d.Waits())
}

// must fails, if one of the calls ahead of a test answered an error.
func must(t *testing.T, l ...api.Errno) {
	t.Helper()
	for at, e := range l {
		if e != api.OK {
			t.Fatalf("call %d answers %d", at, e)
		}
	}
}

// deeds holds Deed and Fits against what is wanted.
func deeds(t *testing.T, root string, m api.Member, want disk.Deed, wantErr api.Errno) {
	t.Helper()
	x, e := build.Deed(root, m)
	if told(x) != told(want) || e != wantErr {
		t.Fatalf("Deed(%q, %v) = %s, %d, not %s, %d", root, m, told(x), e, told(want), wantErr)
	}
	if got := build.Fits(root, m); got != (wantErr == api.OK) {
		t.Fatalf("Fits(%q, %v) = %t", root, m, got)
	}
}

// deedsNot looks for an error alone.
func deedsNot(t *testing.T, root string, m api.Member, want api.Errno) {
	t.Helper()
	deeds(t, root, m, disk.Deed{}, want)
}

func TestDeed(t *testing.T) { // P17.1
	// The chapter's example.
	deeds(t, "s", api.Member{Path: "a", Kind: api.Dir}, disk.Deed{Kind: mkdir, P: "s/a"}, api.OK)

	for root, ahead := range map[string]string{"": "", "s": "s/", "gen-12": "gen-12/", "s/t.u": "s/t.u/", of(60): of(60) + "/"} {
		for _, p := range []string{"a", "a/b", "a.b/c d", "s", "s/t", "..."} {
			deeds(t, root, dir(p), disk.Deed{Kind: mkdir, P: ahead + p, Meta: some}, api.OK)
			deeds(t, root, file(p, "abc"), disk.Deed{Kind: create, P: ahead + p, Meta: some, Data: []byte("abc")}, api.OK)
			deeds(t, root, file(p, ""), disk.Deed{Kind: create, P: ahead + p, Meta: some}, api.OK)
			// A Sym's link is any text: it stands as it is. A Hard's lies under the
			// root, and its numbers are those of what it leads to.
			for _, to := range []string{"d", "d/e", "../d", "/d", "d/", "s"} {
				deeds(t, root, symOf(p, to), disk.Deed{Kind: sym, P: ahead + p, Q: to, Meta: some}, api.OK)
			}
			for _, old := range []string{"d", "d/e", "s", "s/t", p} {
				deeds(t, root, hardOf(p, old), disk.Deed{Kind: link, P: ahead + p, Q: ahead + old}, api.OK)
			}
		}
	}
	m := api.Member{Path: "a", Kind: api.File, Meta: other, Data: make([]byte, 4096)}
	deeds(t, "s", m, disk.Deed{Kind: create, P: "s/a", Meta: other, Data: m.Data}, api.OK)
	m = api.Member{Path: "a", Kind: api.File, Data: []byte{}}
	deeds(t, "s", m, disk.Deed{Kind: create, P: "s/a"}, api.OK)
	m = api.Member{Path: "a", Kind: api.Sym, Meta: other, Link: of(300)}
	deeds(t, "s", m, disk.Deed{Kind: sym, P: "s/a", Q: of(300), Meta: other}, api.OK)
}

// wrongMembers are members that may not be, by layer 8's error.
func wrongMembers() map[api.Errno][]api.Member {
	return map[api.Errno][]api.Member{
		api.ErrPath: {
			{}, dir(""), dir("/"), dir("/a"), dir("a/"), dir("a//b"), dir("."), dir(".."), dir("../a"), dir("a/../b"), dir("a/.."), dir("a\x00"), dir(of(61)), dir(longPath(301)),
			file("../a", "x"), symOf("../a", "b"), hardOf("../a", "b"),
			hardOf("a", ""), hardOf("a", "/"), hardOf("a", "/b"), hardOf("a", "b/"), hardOf("a", ".."), hardOf("a", "../b"), hardOf("a", "b/../c"), hardOf("a", longPath(301)),
		},
		api.ErrKind: {{Path: "a"}, {Path: "a", Kind: 5}, {Path: "a", Kind: -1}, {Path: "a", Kind: 9}, {Path: "a", Kind: math.MaxInt}, {Path: "a", Kind: math.MinInt}},
		api.ErrBig: {
			{Path: "a", Kind: api.Dir, Meta: api.Meta{Mode: 4096}}, {Path: "a", Kind: api.File, Meta: api.Meta{Uid: -1}}, {Path: "a", Kind: api.Hard, Link: "b", Meta: api.Meta{Gid: 1 << 40}},
			{Path: "a", Kind: api.Sym, Link: "b", Meta: api.Meta{Mtime: 1<<50 + 1}}, file("a", of(4097)), symOf("a", of(301)),
		},
		api.ErrForm: {
			{Path: "a", Kind: api.File, Link: "b"}, symOf("a", ""), symOf("a", "b\x00"), {Path: "a", Kind: api.Sym, Link: "b", Data: []byte("c")},
			{Path: "a", Kind: api.Hard, Link: "b", Data: []byte("c")}, {Path: "a", Kind: api.Dir, Data: []byte("c")}, {Path: "a", Kind: api.Dir, Link: "b"},
		},
	}
}

// wrongRoots are neither empty nor paths.
func wrongRoots() []string {
	return []string{"/", "//", "/s", "s/", "s//t", ".", "..", "../s", "s/..", "s/../t", "\x00", "s\x00", of(61), of(300), longPath(301), longPath(999), strings.Repeat("/", 400)}
}

func TestDeedOfWrongMembers(t *testing.T) { // P17.1, P17.4
	for want, l := range wrongMembers() {
		for _, m := range l {
			// Layer 8's error stands ahead of all that a root may be.
			for _, root := range append(wrongRoots(), "", "s", "s/t", longPath(300)) {
				deedsNot(t, root, m, want)
			}
		}
	}
}

func TestDeedOfWrongRoots(t *testing.T) { // P17.1
	for _, root := range wrongRoots() {
		for _, m := range []api.Member{dir("a"), file("a/b", "x"), symOf("a", "b"), hardOf("a", "b")} {
			deedsNot(t, root, m, api.ErrPath)
		}
	}
}

// TestDeedOfLongPaths puts paths under roots of all lengths: 300 bytes are the
// most.
func TestDeedOfLongPaths(t *testing.T) { // P17.1
	for length := 1; length <= 300; length++ {
		root := longPath(length)
		for more := max(299-length-3, 1); more <= min(299-length+3, 300); more++ {
			p := longPath(more)
			whole := root + "/" + p
			if length+1+more > 300 {
				for _, m := range []api.Member{dir(p), file(p, "x"), symOf(p, "a"), hardOf(p, "a"), hardOf("a", p), hardOf(p, p)} {
					deedsNot(t, root, m, api.ErrPath)
				}
				continue
			}
			deeds(t, root, dir(p), disk.Deed{Kind: mkdir, P: whole, Meta: some}, api.OK)
			deeds(t, root, file(p, "x"), disk.Deed{Kind: create, P: whole, Meta: some, Data: []byte("x")}, api.OK)
			deeds(t, root, symOf(p, of(300)), disk.Deed{Kind: sym, P: whole, Q: of(300), Meta: some}, api.OK)
			deeds(t, root, hardOf(p, p), disk.Deed{Kind: link, P: whole, Q: whole}, api.OK)
			deeds(t, root, hardOf("b", p), disk.Deed{Kind: link, P: root + "/b", Q: whole}, api.OK)
			deeds(t, root, hardOf(p, "b"), disk.Deed{Kind: link, P: whole, Q: root + "/b"}, api.OK)
		}
	}
	// A Hard's path, and its link, each for itself.
	deedsNot(t, longPath(200), hardOf("a", longPath(100)), api.ErrPath)
	deedsNot(t, longPath(200), hardOf(longPath(100), "a"), api.ErrPath)
	// Without a root, and just under one.
	for _, p := range []string{longPath(299), longPath(300)} {
		deeds(t, "", dir(p), disk.Deed{Kind: mkdir, P: p, Meta: some}, api.OK)
		deeds(t, "", hardOf(p, p), disk.Deed{Kind: link, P: p, Q: p}, api.OK)
		deedsNot(t, "s", dir(p), api.ErrPath)
		deedsNot(t, p, dir("a"), api.ErrPath)
	}
}

// mayBePath tells by layer 4's words.
func mayBePath(s string) bool {
	for _, name := range strings.Split(s, "/") {
		if name == "" || name == "." || name == ".." || len(name) > 60 || strings.Contains(name, "\x00") {
			return false
		}
	}
	return len(s) <= 300
}

// wanted is a deed by the chapter's words.
func wanted(root string, m api.Member) (disk.Deed, api.Errno) {
	if e := memb.May(m); e != api.OK {
		return disk.Deed{}, e
	}
	under := func(p string) string {
		if root == "" {
			return p
		}
		return root + "/" + p
	}
	if root != "" && !mayBePath(root) || !mayBePath(under(m.Path)) || m.Kind == api.Hard && !mayBePath(under(m.Link)) {
		return disk.Deed{}, api.ErrPath
	}
	x := disk.Deed{P: under(m.Path), Meta: m.Meta}
	switch m.Kind {
	case api.Dir:
		x.Kind = mkdir
	case api.File:
		x.Kind, x.Data = create, m.Data
	case api.Sym:
		x.Kind, x.Q = sym, m.Link
	case api.Hard:
		x.Kind, x.Q, x.Meta = link, under(m.Link), api.Meta{}
	}
	return x, api.OK
}

// paths are texts that roots, paths and links by chance are.
func paths() []string {
	return []string{
		"a", "a", "b", "b", "a/b", "a/b", "a/b/c", "s", "s", "s/t", "t", "x", "x/y", "", "..", "../x", "s/../x", "/", "/x", "a/", "a//b", ".", "a\x00", of(60), of(61),
		longPath(100), longPath(149), longPath(150), longPath(199), longPath(200), longPath(298), longPath(300), longPath(301),
	}
}

// memberByChance may be, mostly.
func memberByChance(r *rand.Rand) api.Member {
	l := paths()
	m := api.Member{Path: l[r.Intn(len(l))], Kind: 1 + r.Intn(4), Meta: api.Meta{Mode: int64(r.Intn(9)), Mtime: int64(r.Intn(9)) - 4}}
	switch m.Kind {
	case api.File:
		m.Data = []byte(of(r.Intn(4)))
	case api.Hard, api.Sym:
		m.Link = l[r.Intn(len(l))]
	}
	switch r.Intn(30) {
	case 0:
		m.Kind = r.Intn(9) - 2
	case 1:
		m.Meta.Uid = -1
	case 2:
		m.Data = []byte(of(4096 + r.Intn(2)))
	case 3:
		m.Link = of(299 + r.Intn(3))
	}
	return m
}

func TestDeedByChance(t *testing.T) { // P17.1
	r := rand.New(rand.NewSource(17))
	l := paths()
	type answer struct {
		kind int
		err  api.Errno
	}
	met := map[answer]int{}
	for range 60000 {
		root, m := l[r.Intn(len(l))], memberByChance(r)
		want, e := wanted(root, m)
		deeds(t, root, m, want, e)
		met[answer{want.Kind, e}]++
	}
	for _, want := range []answer{{mkdir, api.OK}, {create, api.OK}, {sym, api.OK}, {link, api.OK}, {0, api.ErrPath}, {0, api.ErrKind}, {0, api.ErrBig}, {0, api.ErrForm}} {
		if met[want] < 100 {
			t.Errorf("%v by chance %d times alone", want, met[want])
		}
	}
}

// grown is a disk that has something beside a root `s`, under which nothing is.
func grown(t *testing.T) *disk.Disk {
	t.Helper()
	d := disk.New(80, 9999)
	must(t, d.Do(disk.Deed{Kind: mkdir, P: "s", Meta: other}), d.Do(disk.Deed{Kind: mkdir, P: "x", Meta: some}),
		d.Do(disk.Deed{Kind: create, P: "x/y", Meta: some, Data: []byte("old")}), d.Do(disk.Deed{Kind: sym, P: "l", Q: "x"}), d.Do(disk.Deed{Kind: link, P: "h", Q: "x/y"}))
	d.Sync()
	return d
}

func TestPut(t *testing.T) { // P17.2
	for _, m := range []api.Member{dir("a"), file("a", "abc"), file("a", ""), symOf("a", "../x"), symOf("a", "a")} {
		d, want := grown(t), grown(t)
		x, e := build.Deed("s", m)
		must(t, e, want.Do(x))
		if e := build.Put(d, "s", m); e != api.OK || text(d) != text(want) {
			t.Errorf("Put(%v) = %d:\n%s, not\n%s", m, e, text(d), text(want))
		}
	}
	d := grown(t)
	must(t, build.Put(d, "s", dir("d")), build.Put(d, "s/d", file("f", "abc")), build.Put(d, "s", hardOf("h", "d/f")), build.Put(d, "s/d", symOf("l", "f")), build.Put(d, "", api.Member{Path: "z", Kind: api.Dir}))
	for p, want := range map[string]node.Info{
		"s/d":   {Kind: api.Dir, Meta: some, Links: 1},
		"s/d/f": {Kind: api.File, Meta: some, Data: []byte("abc"), Links: 2},
		"s/h":   {Kind: api.File, Meta: some, Data: []byte("abc"), Links: 2},
		"s/d/l": {Kind: api.Sym, Meta: some, Link: "f", Links: 1},
		"z":     {Kind: api.Dir, Links: 1},
	} {
		if i, e := d.View().Get(p); e != api.OK || fmt.Sprint(i) != fmt.Sprint(want) {
			t.Errorf("Get(%q) = %v, %d, not %v", p, i, e, want)
		}
	}
	if !d.View().Same("s/h", "s/d/f") || len(d.Waits()) != 5 || d.Syncs() != 1 {
		t.Errorf("it is\n%s, behind %d syncs", text(d), d.Syncs())
	}
	// What was put waits for a sync.
	d.Crash(0, 9)
	if text(d) != text(grown(t)) {
		t.Errorf("behind a crash it is\n%s", text(d))
	}
}

func TestPutErrors(t *testing.T) { // P17.2
	d := grown(t)
	must(t, build.Put(d, "s", dir("d")), build.Put(d, "s", file("f", "abc")), build.Put(d, "s", symOf("l", "d")))
	before := text(d)
	fails := func(root string, m api.Member, want api.Errno) {
		t.Helper()
		if e := build.Put(d, root, m); e != want {
			t.Errorf("Put(%q, %v) = %d, not %d", root, m, e, want)
		}
		if n, e := build.All(d, root, []api.Member{m}); n != 0 || e != want {
			t.Errorf("All(%q, %v) = %d, %d, not 0, %d", root, m, n, e, want)
		}
		if text(d) != before {
			t.Fatalf("Put(%q, %v) turned the disk to\n%s, not\n%s", root, m, text(d), before)
		}
	}
	for want, l := range wrongMembers() {
		for _, m := range l {
			fails("s", m, want)
			fails("none", m, want)
		}
	}
	for _, root := range append(wrongRoots(), longPath(299), longPath(300)) {
		fails(root, dir("a"), api.ErrPath)
	}
	for _, m := range []api.Member{dir("f"), file("d", ""), symOf("l", "x"), hardOf("d", "f"), hardOf("f", "f")} {
		fails("s", m, api.ErrThere)
	}
	for _, m := range []api.Member{dir("n/a"), file("d/n/a", ""), symOf("n/a", "x"), hardOf("n/a", "f"), hardOf("a", "n"), hardOf("a", "a")} {
		fails("s", m, api.ErrNone)
	}
	// No link is followed: neither on the way to a path, nor to a root.
	for _, m := range []api.Member{dir("f/a"), file("l/a", ""), symOf("l/a/b", "x"), hardOf("f/a", "f"), hardOf("a", "l/b")} {
		fails("s", m, api.ErrNotDir)
	}
	for _, root := range []string{"l", "h", "x/y", "s/l", "s/f"} {
		fails(root, dir("a"), api.ErrNotDir)
	}
	fails("none", dir("a"), api.ErrNone)
	fails("x/none", file("a", "x"), api.ErrNone)
	fails("s", hardOf("a", "d"), api.ErrKind)
	fails("s", hardOf("a", "l"), api.ErrKind)
	// What stands outside of the root is nothing that a Hard leads to.
	fails("s", hardOf("a", "x/y"), api.ErrNone)
	fails("s", hardOf("a", "h"), api.ErrNone)

	d = disk.New(1, 3)
	before = text(d)
	fails("", file("a", "abcd"), api.ErrFull)
	must(t, build.Put(d, "", file("a", "abc")))
	before = text(d)
	fails("", dir("b"), api.ErrFull)
	fails("", file("b", ""), api.ErrFull)
	fails("", symOf("b", "a"), api.ErrFull)
	must(t, build.Put(d, "", hardOf("b", "a"))) // it needs no node more
}

func TestPutOfNobody(t *testing.T) { // P17.2, R6
	for _, d := range []*disk.Disk{nil, {}, new(disk.Disk)} {
		for want, l := range wrongMembers() {
			for _, m := range l {
				if e := build.Put(d, "s", m); e != want {
					t.Errorf("Put(%v) = %d, not %d: Deed's error stands ahead", m, e, want)
				}
				if n, e := build.All(d, "s", []api.Member{m, dir("a")}); n != 0 || e != want {
					t.Errorf("All(%v) = %d, %d, not 0, %d", m, n, e, want)
				}
			}
		}
		for _, root := range wrongRoots() {
			if e := build.Put(d, root, dir("a")); e != api.ErrPath {
				t.Errorf("Put(%q) = %d", root, e)
			}
		}
		// Of no members none is put: nothing is asked of the disk.
		if n, e := build.All(d, "s", nil); n != 0 || e != api.OK {
			t.Errorf("All of nothing = %d, %d", n, e)
		}
		for _, m := range []api.Member{dir("a"), dir("a/b"), file("a", "x"), symOf("a", "b"), hardOf("a", "b")} {
			for _, root := range []string{"", "s", "s/t"} {
				if e := build.Put(d, root, m); e != api.ErrNil {
					t.Errorf("Put(%q, %v) = %d", root, m, e)
				}
				if n, e := build.All(d, root, []api.Member{m, {}, m}); n != 0 || e != api.ErrNil {
					t.Errorf("All(%q, %v) = %d, %d", root, m, n, e)
				}
			}
		}
	}
}

// TestPutBurns counts what a fuse counts: a deed each, be it done or not; where
// Deed tells an error there is none.
func TestPutBurns(t *testing.T) { // P17.2
	d := grown(t)
	d.Fuse(2)
	for range 5 {
		for want, l := range wrongMembers() {
			if e := build.Put(d, "s", l[0]); e != want {
				t.Errorf("Put(%v) = %d, not %d", l[0], e, want)
			}
		}
		build.Put(d, "/", dir("a"))
		build.Deed("s", dir("a"))
		build.Fits("s", dir("a"))
		if n, e := build.All(d, "s", nil); n != 0 || e != api.OK {
			t.Errorf("All of nothing = %d, %d", n, e)
		}
	}
	if e := build.Put(d, "s", dir("n/a")); e != api.ErrNone {
		t.Errorf("Put = %d, not ErrNone", e)
	}
	l := []api.Member{dir("a"), dir("b"), dir("c")}
	if n, e := build.All(d, "s", l); n != 1 || e != api.ErrStop || len(d.Waits()) != 1 {
		t.Errorf("All on a fuse of 1 = %d, %d; %d wait", n, e, len(d.Waits()))
	}
	if e := build.Put(d, "s", dir("b")); e != api.ErrStop || build.Put(d, "s", dir("n/a")) != api.ErrStop {
		t.Errorf("Put on a dark disk = %d", e)
	}
	if e := build.Put(d, "s", dir("..")); e != api.ErrPath {
		t.Errorf("Put of what has no deed, on a dark disk = %d", e)
	}
	if n, e := build.All(d, "s", l); n != 0 || e != api.ErrStop {
		t.Errorf("All on a dark disk = %d, %d", n, e)
	}
}

// list is a right list of all kinds.
func list() []api.Member {
	return []api.Member{
		{Path: "c", Kind: api.File, Meta: other, Data: []byte("abc")},
		{Path: "d", Kind: api.Dir, Meta: some},
		{Path: "d/e", Kind: api.Dir, Meta: other},
		{Path: "d/e/f", Kind: api.Hard, Meta: other, Link: "c"},
		{Path: "d/e.f", Kind: api.Hard, Meta: other, Link: "c"},
		{Path: "d/h", Kind: api.File, Meta: some, Data: []byte(of(4096))},
		{Path: "d/s", Kind: api.Sym, Meta: other, Link: "../" + of(297)},
		{Path: "e", Kind: api.Dir},
		{Path: "empty", Kind: api.File, Meta: other},
		{Path: "s", Kind: api.Sym, Link: "d"},
		{Path: "z", Kind: api.Hard, Meta: some, Link: "d/h"},
	}
}

func TestAll(t *testing.T) { // P17.2
	l := list()
	for n := range len(l) + 1 {
		for _, root := range []string{"", "s", "x"} {
			d, want := grown(t), grown(t)
			if root == "" {
				d, want = disk.New(80, 9999), disk.New(80, 9999)
			}
			for _, m := range l[:n] {
				must(t, build.Put(want, root, m))
			}
			if got, e := build.All(d, root, l[:n]); got != n || e != api.OK || text(d) != text(want) || d.Syncs() != want.Syncs() {
				t.Errorf("All(%q) of %d = %d, %d:\n%s", root, n, got, e, text(d))
			}
			// Behind the first error nothing is put.
			for e, wrong := range wrongMembers() {
				for _, m := range append(wrong[:2:2], dir("a/b/c")) {
					if m.Path == "a/b/c" {
						e = api.ErrNone
					}
					d := disk.New(80, 9999)
					if root != "" {
						d = grown(t)
					}
					if got, err := build.All(d, root, slices.Concat(l[:n], []api.Member{m}, l[n:], []api.Member{{}})); got != n || err != e || text(d) != text(want) {
						t.Errorf("All(%q) of %d and one that is wrong = %d, %d, not %d:\n%s", root, n, got, err, e, text(d))
					}
				}
			}
		}
	}
	for _, l := range [][]api.Member{nil, {}} {
		d := grown(t)
		for _, root := range []string{"", "s", "none", "/"} {
			if n, e := build.All(d, root, l); n != 0 || e != api.OK || text(d) != text(grown(t)) {
				t.Errorf("All(%q) of nothing = %d, %d", root, n, e)
			}
		}
	}
	if n, e := build.All(grown(t), "/", list()); n != 0 || e != api.ErrPath {
		t.Errorf("All under a root that is no path = %d, %d", n, e)
	}
}

// rebuilds puts what is told of a tree under an empty directory, and holds both
// against each other; it does so once more with what is read of its archive.
func rebuilds(t *testing.T, x *node.Tree, root string) {
	t.Helper()
	l, e := walk.Members(x, root)
	if e != api.OK {
		t.Fatalf("Members(%q) = %d", root, e)
	}
	b, e := walk.Stream(x, root)
	must(t, e)
	read, e := arch.Parse(b)
	must(t, e)
	for _, l := range [][]api.Member{l, read} {
		for _, to := range []string{"", "s", "s/t"} {
			d := disk.New(70, 70*4096)
			if to != "" {
				must(t, build.Put(d, "", dir("s")), build.Put(d, "s", api.Member{Path: "t", Kind: api.Dir, Meta: other}))
			}
			if to == "s" {
				must(t, d.Do(disk.Deed{Kind: 7, P: "s/t"}))
			}
			if n, e := build.All(d, to, l); n != len(l) || e != api.OK {
				t.Fatalf("All(%q) = %d, %d, not %d", to, n, e, len(l))
			}
			if !tree.Equal(x, root, d.View(), to) {
				t.Fatalf("under %q it is\n%s, not %v", to, text(d), l)
			}
			d.Sync()
			d.Crash(0, 0)
			if again, e := walk.Stream(d.Durable(), to); e != api.OK || !bytes.Equal(again, b) {
				t.Fatalf("Stream(%q) of it = %d bytes, %d", to, len(again), e)
			}
		}
	}
}

func TestBuildsWhatIsWalked(t *testing.T) { // P17.3, W1
	d := disk.New(80, 9999)
	if n, e := build.All(d, "", list()); n != len(list()) || e != api.OK {
		t.Fatalf("All = %d, %d", n, e)
	}
	for _, root := range []string{"", "d", "d/e", "e"} {
		rebuilds(t, d.View(), root)
	}
	// As many of the greatest members as may be.
	d = disk.New(64, 64*4096)
	must(t, build.Put(d, "", dir(of(60))))
	for at := range 61 {
		must(t, build.Put(d, of(60), api.Member{Path: fmt.Sprintf("%060d", at), Kind: api.File, Meta: other, Data: bytes.Repeat([]byte{byte(at)}, 4096)}))
	}
	must(t, build.Put(d, "", symOf("s", of(300))), build.Put(d, "", hardOf("z", of(60)+"/"+fmt.Sprintf("%060d", 9))))
	rebuilds(t, d.View(), "")
	rebuilds(t, d.View(), of(60))
}

// treeByChance is a tree that many calls made; what they answer plays no part.
func treeByChance(r *rand.Rand) *node.Tree {
	x := node.New(60, 999)
	names := []string{"a", "b", "a.b", "A", "a b", "\xff"}
	path := func() string {
		p := names[r.Intn(len(names))]
		for range r.Intn(4) {
			p += "/" + names[r.Intn(len(names))]
		}
		return p
	}
	files := []string{"a"}
	for range 20 + r.Intn(200) {
		m := api.Meta{Mode: int64(r.Intn(4)), Mtime: int64(r.Intn(4)) - 2}
		p := path()
		switch r.Intn(8) {
		case 0, 1, 2:
			x.Mkdir(p, m)
		case 3, 4:
			if x.Create(p, m, []byte(of(r.Intn(9)))) == api.OK {
				files = append(files, p)
			}
		case 5:
			x.Link(p, files[r.Intn(len(files))])
		case 6:
			x.Sym(p, m, path())
		case 7:
			x.Rename(p, path())
		}
	}
	return x
}

func TestBuildsByChance(t *testing.T) { // P17.3, W1
	r := rand.New(rand.NewSource(17))
	kinds := map[int]int{}
	for range 300 {
		x := treeByChance(r)
		roots := []string{""}
		names, _ := x.List("")
		for _, name := range names {
			if i, _ := x.Get(name); i.Kind == api.Dir {
				roots = append(roots, name)
			}
		}
		for _, root := range roots {
			l, e := walk.Members(x, root)
			if e != api.OK {
				continue
			}
			rebuilds(t, x, root)
			for _, m := range l {
				kinds[m.Kind]++
			}
		}
	}
	for _, kind := range []int{api.File, api.Hard, api.Sym, api.Dir} {
		if kinds[kind] < 300 {
			t.Errorf("too few by chance: %v", kinds)
		}
	}
}

// outside tells all that lies outside of `s`: what each path has, and which of
// them are of one node.
func outside(t *node.Tree) string {
	var b strings.Builder
	met := []string{""}
	for at := 0; at < len(met); at++ {
		p := met[at]
		i, e := t.Get(p)
		first := slices.IndexFunc(met[:at+1], func(q string) bool { return t.Same(p, q) })
		fmt.Fprintf(&b, "%q %d %d %v %q %q %d\n", p, e, i.Kind, i.Meta, i.Link, i.Data, first)
		names, _ := t.List(p)
		for _, name := range names {
			if p == "" && name != "s" {
				met = append(met, name)
			} else if p != "" {
				met = append(met, p+"/"+name)
			}
		}
	}
	root, e := t.Get("s") // the root itself is not turned, but what it has
	fmt.Fprintln(&b, root, e)
	return b.String()
}

func TestNothingOutsideIsTurned(t *testing.T) { // P17.4, W2
	r := rand.New(rand.NewSource(4))
	// What leads out of the root, or would, if it were followed.
	wicked := []api.Member{
		symOf("out", "../x"), file("out/y", "new"), dir("out/d"), hardOf("out/h", "out/y"), hardOf("h", "out/y"), symOf("out/l", "/"),
		symOf("up", ".."), file("up/x/y", "new"), file("up/z", "new"), dir("up/s"), symOf("abs", "/x"), file("abs/y", "new"), symOf("x", "../x/y"), file("x", "new"),
		file("../x/y", "new"), file("/x/y", "new"), dir(".."), dir("../z"), dir("a/../../z"), hardOf("in", "../x/y"), hardOf("in", "/x/y"), hardOf("in", "x/y"), hardOf("../x/h", "in"), file("..", "new"), file(".", "new"), file("", "new"),
		symOf("loop", "loop"), file("loop/a", "new"), dir("x/y"), file("x/y", "new"), file("\x00/../x", "new"),
	}
	puts, refused := 0, 0
	for range 300 {
		d := grown(t)
		before := outside(d.View())
		for range 60 {
			m := memberByChance(r)
			if r.Intn(3) > 0 {
				m = wicked[r.Intn(len(wicked))]
			}
			root := "s"
			if r.Intn(4) == 0 {
				l := []string{"s/out", "s/up", "s/a", "s/a/b", "s/none", "s/..", "s/../x", "s/", "s//x", "s/up/x"}
				root = l[r.Intn(len(l))]
			}
			if e := build.Put(d, root, m); e == api.OK {
				puts++
			} else {
				refused++
			}
			if r.Intn(9) == 0 {
				d.Sync()
			}
			if r.Intn(30) == 0 {
				d.Crash(r.Intn(9), r.Intn(9))
			}
			for _, x := range d.Waits() {
				if !strings.HasPrefix(x.P, "s/") || x.Kind == link && !strings.HasPrefix(x.Q, "s/") {
					t.Fatalf("Put(%q, %v) does %v", root, m, x)
				}
			}
			if got := outside(d.View()); got != before {
				t.Fatalf("Put(%q, %v) turned what is outside:\n%s, not\n%s", root, m, got, before)
			}
		}
	}
	if puts < 1000 || refused < 1000 {
		t.Errorf("too few by chance: %d were put, %d not", puts, refused)
	}
}

func TestNothingIsShared(t *testing.T) { // R3, R4
	l := list()
	was := fmt.Sprint(l)
	for range 2 {
		for _, m := range l {
			x, _ := build.Deed("s", m)
			clear(x.Data)
			_ = append(x.Data, "more"...)
			build.Fits("s", m)
		}
		d := disk.New(80, 9999)
		if n, e := build.All(d, "", l); n != len(l) || e != api.OK {
			t.Errorf("All = %d, %d", n, e)
		}
		must(t, d.Do(disk.Deed{Kind: 5, P: "c", Data: []byte("xyz")}))
		if fmt.Sprint(l) != was {
			t.Fatal("a list was turned")
		}
	}
	// What was handed in is not kept.
	m := file("a", "abc")
	x, _ := build.Deed("s", m)
	d := grown(t)
	must(t, build.Put(d, "s", m))
	clear(m.Data)
	if i, _ := d.View().Get("s/a"); string(x.Data) != "abc" || string(i.Data) != "abc" || string(d.Waits()[0].Data) != "abc" {
		t.Errorf("bytes that were handed in are kept: %q, %q", x.Data, i.Data)
	}
}
