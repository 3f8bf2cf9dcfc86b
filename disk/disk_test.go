package disk_test

import (
	"fmt"
	"math"
	"math/rand"
	"reflect"
	"slices"
	"strings"
	"testing"

	"thwart/api"
	"thwart/disk"
	"thwart/node"
	"thwart/ppath"
)

// The kinds of deeds, by the chapter.
const (
	mkdir   = 1
	create  = 2
	sym     = 3
	link    = 4
	write   = 5
	set     = 6
	remove  = 7
	clears  = 8
	renames = 9
)

var (
	some  = api.Meta{Mode: 0o644, Uid: 7, Gid: 8, Mtime: 9}
	other = api.Meta{Mode: 1, Uid: 2, Gid: 3, Mtime: -4}
)

// of is a text of n signs.
func of(n int) string {
	return strings.Repeat("n", n)
}

// deeds are some of all kinds, that are done in this order on an empty tree.
func deeds() []disk.Deed {
	return []disk.Deed{
		{Kind: mkdir, P: "d", Meta: some},
		{Kind: create, P: "d/f", Meta: some, Data: []byte("abcd")},
		{Kind: sym, P: "s", Meta: some, Q: "d"},
		{Kind: link, P: "g", Q: "d/f"},
		{Kind: write, P: "g", Data: []byte("efg")},
		{Kind: set, P: "d/f", Meta: other},
		{Kind: renames, P: "s", Q: "d/s"},
		{Kind: mkdir, P: "e"},
		{Kind: create, P: "e/x", Data: []byte("x")},
		{Kind: remove, P: "d/f"},
		{Kind: clears, P: "e"},
		{Kind: create, P: "e", Meta: other, Data: []byte("hij")},
	}
}

// notKinds are numbers of no kind.
func notKinds() []int {
	return []int{0, -1, 10, 11, -9, 255, 256 + mkdir, 1<<32 + mkdir, math.MaxInt, math.MinInt}
}

// call does a deed by layer 13's call of its kind, as the chapter tells it.
func call(t *node.Tree, x disk.Deed) api.Errno {
	calls := map[int]func() api.Errno{
		mkdir:   func() api.Errno { return t.Mkdir(x.P, x.Meta) },
		create:  func() api.Errno { return t.Create(x.P, x.Meta, x.Data) },
		sym:     func() api.Errno { return t.Sym(x.P, x.Meta, x.Q) },
		link:    func() api.Errno { return t.Link(x.P, x.Q) },
		write:   func() api.Errno { return t.Write(x.P, x.Data) },
		set:     func() api.Errno { return t.Set(x.P, x.Meta) },
		remove:  func() api.Errno { return t.Remove(x.P) },
		clears:  func() api.Errno { return t.Clear(x.P) },
		renames: func() api.Errno { return t.Rename(x.P, x.Q) },
	}
	if do := calls[x.Kind]; do != nil {
		return do()
	}
	return api.ErrArg
}

// text tells all that a tree tells: each path, what it has, and the first path
// that is of the same node.
func text(t *node.Tree) string {
	var b strings.Builder
	nodes, bytes := t.Used()
	fmt.Fprintln(&b, nodes, bytes)
	paths := []string{""}
	for at := 0; at < len(paths); at++ {
		p := paths[at]
		i, e := t.Get(p)
		first := slices.IndexFunc(paths[:at+1], func(q string) bool { return t.Same(p, q) })
		fmt.Fprintf(&b, "%q %d %d %v %q %q %d %d\n", p, e, i.Kind, i.Meta, i.Link, i.Data, i.Links, first)
		names, _ := t.List(p)
		for _, name := range names {
			paths = append(paths, ppath.Join(p, name))
		}
	}
	return b.String()
}

// copies are the same deeds, that share nothing with these.
func copies(l []disk.Deed) []disk.Deed {
	var c []disk.Deed
	for _, x := range l {
		x.Data = slices.Clone(x.Data)
		c = append(c, x)
	}
	return c
}

// areSame takes lists of bytes that are nil as those that are empty.
func areSame(a, b []disk.Deed) bool {
	return slices.EqualFunc(a, b, func(x, y disk.Deed) bool {
		same := string(x.Data) == string(y.Data)
		x.Data, y.Data = nil, nil
		return same && reflect.DeepEqual(x, y)
	})
}

// model is a disk as all deeds that were done, from the first one on. Its trees
// are made anew by them each time.
type model struct {
	nodes, bytes int
	durable      []disk.Deed
	waits        []disk.Deed
	syncs        int
	fuse         int
}

func (m *model) tree(l ...[]disk.Deed) *node.Tree {
	t := node.New(m.nodes, m.bytes)
	for _, part := range l {
		for _, x := range part {
			if e := call(t, x); e != api.OK {
				panic(fmt.Sprint("a deed that was done answers ", e))
			}
		}
	}
	return t
}

func (m *model) do(x disk.Deed) api.Errno {
	if m.fuse == 0 {
		return api.ErrStop
	}
	if m.fuse > 0 {
		m.fuse--
	}
	e := call(m.tree(m.durable, m.waits), x)
	if e == api.OK {
		m.waits = append(m.waits, copies([]disk.Deed{x})...)
	}
	return e
}

func (m *model) sync() {
	if m.fuse == 0 {
		return
	}
	if m.fuse > 0 {
		m.fuse--
	}
	m.durable, m.waits = append(m.durable, m.waits...), nil
	m.syncs++
}

func (m *model) crash(keep, torn int) {
	for i, x := range m.waits {
		switch {
		case i < keep:
			m.durable = append(m.durable, x)
		case i == max(keep, 0) && (x.Kind == create || x.Kind == write) && torn >= 1 && len(x.Data) >= 1:
			if torn < len(x.Data) {
				x.Data = x.Data[:torn]
			}
			m.durable = append(m.durable, x)
		}
	}
	m.waits, m.fuse = nil, -1
}

// both are a disk and its model, of which the same is asked.
type both struct {
	t    *testing.T
	disk *disk.Disk
	want *model
}

func start(t *testing.T, nodes, bytes int) *both {
	b := &both{t: t, disk: disk.New(nodes, bytes), want: &model{nodes: nodes, bytes: bytes, fuse: -1}}
	b.look("New")
	return b
}

func (b *both) do(l ...disk.Deed) api.Errno {
	b.t.Helper()
	last := api.OK
	for _, x := range l {
		what := fmt.Sprintf("Do of %d, %.40q, %.40q, %v, %d bytes", x.Kind, x.P, x.Q, x.Meta, len(x.Data))
		e, want := b.disk.Do(x), b.want.do(x)
		if e != want {
			b.t.Fatalf("%s = %d, not %d", what, e, want)
		}
		b.look(what)
		last = e
	}
	return last
}

// answers does a deed, and looks for an error that a test tells itself.
func (b *both) answers(x disk.Deed, want api.Errno) {
	b.t.Helper()
	if e := b.do(x); e != want {
		b.t.Fatalf("Do(%v) = %d, not %d", x, e, want)
	}
}

func (b *both) sync() {
	b.t.Helper()
	b.disk.Sync()
	b.want.sync()
	b.look("Sync")
}

func (b *both) crash(keep, torn int) {
	b.t.Helper()
	b.disk.Crash(keep, torn)
	b.want.crash(keep, torn)
	b.look(fmt.Sprintf("Crash(%d, %d)", keep, torn))
}

func (b *both) fuse(n int) {
	b.t.Helper()
	b.disk.Fuse(n)
	b.want.fuse = max(n, -1)
	b.look(fmt.Sprintf("Fuse(%d)", n))
}

// look holds all that a disk tells against the model, and against itself: its
// view is what the deeds that wait make of what is durable.
func (b *both) look(what string) {
	b.t.Helper()
	d, m := b.disk, b.want
	if got, want := text(d.View()), text(m.tree(m.durable, m.waits)); got != want {
		b.t.Fatalf("%s: View() is\n%s, not\n%s", what, got, want)
	}
	if got, want := text(d.Durable()), text(m.tree(m.durable)); got != want {
		b.t.Fatalf("%s: Durable() is\n%s, not\n%s", what, got, want)
	}
	if l := d.Waits(); !areSame(l, m.waits) {
		b.t.Fatalf("%s: Waits() = %v, not %v", what, l, m.waits)
	}
	if d.Syncs() != m.syncs || d.Dark() != (m.fuse == 0) {
		b.t.Fatalf("%s: Syncs() = %d, not %d; Dark() = %t", what, d.Syncs(), m.syncs, d.Dark())
	}
	again := d.Durable()
	for _, x := range d.Waits() {
		if e := disk.Apply(again, x); e != api.OK {
			b.t.Fatalf("%s: what waits answers %d on what is durable", what, e)
		}
	}
	if text(again) != text(d.View()) {
		b.t.Fatalf("%s: what waits makes of what is durable\n%s, not\n%s", what, text(again), text(d.View()))
	}
}

func TestApply(t *testing.T) { // P14.1
	x, want := node.New(9, 99), node.New(9, 99)
	for _, deed := range deeds() {
		if e := disk.Apply(x, deed); e != api.OK || call(want, deed) != api.OK {
			t.Fatalf("Apply(%v) = %d", deed, e)
		}
		if text(x) != text(want) {
			t.Fatalf("Apply(%v) makes\n%s, not\n%s", deed, text(x), text(want))
		}
	}
	// Each kind by its number, as layer 13's calls have its paths, numbers and bytes.
	for p, want := range map[string]node.Info{
		"d":   {Kind: api.Dir, Meta: some, Links: 1},
		"d/s": {Kind: api.Sym, Meta: some, Link: "d", Links: 1},
		"g":   {Kind: api.File, Meta: other, Data: []byte("efg"), Links: 1},
		"e":   {Kind: api.File, Meta: other, Data: []byte("hij"), Links: 1},
	} {
		i, e := x.Get(p)
		if e != api.OK || i.Kind != want.Kind || i.Meta != want.Meta || i.Link != want.Link || string(i.Data) != string(want.Data) || i.Links != want.Links {
			t.Errorf("Get(%q) = %v, %d, not %v", p, i, e, want)
		}
	}
	if l, _ := x.List(""); !slices.Equal(l, []string{"d", "e", "g"}) {
		t.Errorf("List = %q", l)
	}
	if l, _ := x.List("d"); !slices.Equal(l, []string{"s"}) {
		t.Errorf("List(d) = %q", l)
	}
}

// wrong are deeds that answer errors on the tree of deeds.
func wrong() map[api.Errno][]disk.Deed {
	l := map[api.Errno][]disk.Deed{
		api.ErrArg:      {{Kind: remove}, {Kind: clears}, {Kind: renames, Q: "x"}, {Kind: renames, P: "d", Q: "d/x"}},
		api.ErrForm:     {{Kind: sym, P: "x"}, {Kind: sym, P: "x", Q: "a\x00"}},
		api.ErrNone:     {{Kind: mkdir, P: "x/y"}, {Kind: link, P: "x", Q: "y"}, {Kind: write, P: "x"}, {Kind: set, P: "x"}, {Kind: remove, P: "x"}, {Kind: clears, P: "x"}, {Kind: renames, P: "x", Q: "y"}},
		api.ErrThere:    {{Kind: mkdir, P: "d"}, {Kind: create, P: "g"}, {Kind: sym, P: "g", Q: "x"}, {Kind: link, P: "g", Q: "e"}, {Kind: renames, P: "d", Q: "g"}},
		api.ErrPath:     {{Kind: mkdir}, {Kind: create, P: "/"}, {Kind: sym, P: "..", Q: "x"}, {Kind: link, P: "x", Q: "/"}, {Kind: write, P: "/"}, {Kind: set, P: of(301)}, {Kind: remove, P: "."}, {Kind: clears, P: "d/"}, {Kind: renames, P: "g", Q: ""}},
		api.ErrBig:      {{Kind: mkdir, P: "x", Meta: api.Meta{Mode: 4096}}, {Kind: create, P: "x", Data: []byte(of(4097))}, {Kind: sym, P: "x", Q: of(301)}, {Kind: write, P: "g", Data: []byte(of(4097))}, {Kind: set, P: "g", Meta: api.Meta{Uid: -1}}},
		api.ErrKind:     {{Kind: link, P: "x", Q: "d"}, {Kind: write, P: "d/s"}},
		api.ErrNotDir:   {{Kind: mkdir, P: "g/x"}, {Kind: create, P: "d/s/x"}, {Kind: renames, P: "e", Q: "g/e"}},
		api.ErrIsDir:    {{Kind: write, P: "d"}, {Kind: renames, P: "g", Q: "d"}},
		api.ErrFull:     {{Kind: create, P: "x", Data: []byte(of(50))}, {Kind: write, P: "g", Data: []byte(of(50))}},
		api.ErrNotEmpty: {{Kind: remove, P: "d"}},
	}
	for _, kind := range notKinds() {
		l[api.ErrArg] = append(l[api.ErrArg], disk.Deed{Kind: kind, P: "x"}, disk.Deed{Kind: kind}, disk.Deed{Kind: kind, P: "/", Q: "/", Data: []byte(of(4097))})
	}
	return l
}

func TestErrors(t *testing.T) { // P14.1
	x := node.New(9, 40)
	b := start(t, 9, 40)
	for _, deed := range deeds() {
		disk.Apply(x, deed)
		b.answers(deed, api.OK)
	}
	before := text(x)
	for want, l := range wrong() {
		for _, deed := range l {
			if e := disk.Apply(x, deed); e != want || text(x) != before {
				t.Errorf("Apply(%v) = %d, not %d; the tree is\n%s, not\n%s", deed, e, want, text(x), before)
			}
			b.answers(deed, want)
		}
	}
	b.sync()
	for want, l := range wrong() {
		for _, deed := range l {
			b.answers(deed, want)
		}
	}
	b.answers(disk.Deed{Kind: mkdir, P: "x"}, api.OK)
}

func TestApplyOnWhatNoNewGave(t *testing.T) { // P14.1, R6
	for _, x := range []*node.Tree{nil, {}} {
		for _, kind := range notKinds() {
			if e := disk.Apply(x, disk.Deed{Kind: kind}); e != api.ErrArg {
				t.Errorf("Apply of the kind %d = %d", kind, e)
			}
		}
		for kind := mkdir; kind <= renames; kind++ {
			for _, p := range []string{"", "a", "/"} {
				if e := disk.Apply(x, disk.Deed{Kind: kind, P: p, Q: p}); e != api.ErrNil {
					t.Errorf("Apply of the kind %d, %q = %d", kind, p, e)
				}
			}
		}
	}
}

func TestRoom(t *testing.T) { // P14.1
	for _, room := range [][2]int{{2, 3}, {0, 0}, {-1, -1}, {math.MinInt, math.MinInt}, {math.MaxInt, math.MaxInt}, {0, 9}, {9, 0}} {
		b := start(t, room[0], room[1])
		for range 2 {
			b.do(disk.Deed{Kind: create, P: "a", Data: []byte("abc")}, disk.Deed{Kind: mkdir, P: "b"}, disk.Deed{Kind: sym, P: "c", Q: "x"},
				disk.Deed{Kind: write, P: "a", Data: []byte("abcd")}, disk.Deed{Kind: clears, P: "b"}, disk.Deed{Kind: create, P: "d"})
			b.crash(2, 0)
		}
	}
	b := start(t, 1, 3)
	b.answers(disk.Deed{Kind: create, P: "a", Data: []byte("abcd")}, api.ErrFull)
	b.answers(disk.Deed{Kind: create, P: "a", Data: []byte("abc")}, api.OK)
	b.answers(disk.Deed{Kind: mkdir, P: "b"}, api.ErrFull)
	b.crash(0, 0)
	b.answers(disk.Deed{Kind: mkdir, P: "b"}, api.OK)
	b.sync()
	b.crash(0, 0)
	b.answers(disk.Deed{Kind: create, P: "a"}, api.ErrFull)
	b.answers(disk.Deed{Kind: remove, P: "b"}, api.OK)
	b.answers(disk.Deed{Kind: create, P: "a", Data: []byte("abc")}, api.OK)
}

func TestDo(t *testing.T) { // P14.1, P14.2, P14.3
	b := start(t, 9, 99)
	for i, x := range deeds() {
		b.answers(x, api.OK)
		if l := b.disk.Waits(); !areSame(l, deeds()[:i+1]) {
			t.Errorf("Waits() = %v, not the first %d deeds", l, i+1)
		}
		if nodes, bytes := b.disk.Durable().Used(); nodes != 0 || bytes != 0 {
			t.Errorf("Durable() has %d nodes, %d bytes ahead of a sync", nodes, bytes)
		}
	}
	// A deed that turns nothing, but answers no error, waits, too.
	b.answers(disk.Deed{Kind: renames, P: "g", Q: "g"}, api.OK)
	b.answers(disk.Deed{Kind: set, P: "", Meta: some}, api.OK)
	if l := b.disk.Waits(); len(l) != len(deeds())+2 {
		t.Errorf("%d deeds wait, not %d", len(l), len(deeds())+2)
	}
}

func TestSync(t *testing.T) { // P14.1, P14.4
	b := start(t, 9, 99)
	for i, x := range deeds() {
		b.sync()
		if b.disk.Syncs() != i+1 || len(b.disk.Waits()) != 0 {
			t.Errorf("behind %d syncs: Syncs() = %d, %d deeds wait", i+1, b.disk.Syncs(), len(b.disk.Waits()))
		}
		b.answers(x, api.OK)
	}
	b.crash(0, 0)
	b.sync()
	b.sync()
	if b.disk.Syncs() != len(deeds())+2 {
		t.Errorf("Syncs() = %d, not %d: a crash is none, and takes none away", b.disk.Syncs(), len(deeds())+2)
	}
}

// TestExample is the chapter's: two deeds, a crash that keeps one.
func TestExample(t *testing.T) { // P14.2
	d := disk.New(9, 9)
	d.Do(disk.Deed{Kind: mkdir, P: "a"})
	d.Do(disk.Deed{Kind: mkdir, P: "b"})
	d.Crash(1, 0)
	for _, x := range []*node.Tree{d.View(), d.Durable()} {
		if l, e := x.List(""); !slices.Equal(l, []string{"a"}) || e != api.OK {
			t.Errorf("List = %q, %d", l, e)
		}
	}
	if len(d.Waits()) != 0 || d.Syncs() != 0 {
		t.Errorf("Waits() = %v; Syncs() = %d", d.Waits(), d.Syncs())
	}
}

// TestCrash keeps each number of deeds, ahead of which some were synced or not.
func TestCrash(t *testing.T) { // P14.2, P14.3, P14.4
	l := deeds()
	for synced := 0; synced <= len(l); synced++ {
		for _, keep := range append(numbers(len(l)+2), math.MinInt, -1, math.MaxInt) {
			for _, torn := range []int{math.MinInt, -1, 0, 1, 2, 3, 4, 5, math.MaxInt} {
				d := disk.New(9, 99)
				m := &model{nodes: 9, bytes: 99, fuse: -1, durable: l[:synced:synced], waits: l[synced:]}
				for i, x := range l {
					if i == synced {
						d.Sync()
					}
					d.Do(x)
				}
				if synced == len(l) {
					d.Sync()
				}
				d.Crash(keep, torn)
				m.crash(keep, torn)
				want := text(m.tree(m.durable))
				if text(d.Durable()) != want || text(d.View()) != want || len(d.Waits()) != 0 || d.Syncs() != 1 || d.Dark() {
					t.Fatalf("behind %d synced deeds, Crash(%d, %d):\n%s, not\n%s", synced, keep, torn, text(d.View()), want)
				}
			}
		}
	}
}

// numbers are those from 0 on, n of them.
func numbers(n int) []int {
	var l []int
	for i := range n {
		l = append(l, i)
	}
	return l
}

func TestTorn(t *testing.T) { // P14.2
	for _, torn := range []int{math.MinInt, -1, 0, 1, 2, 4, 5, 6, 4096, math.MaxInt} {
		bytes := "abcde"
		left := bytes[:min(max(torn, 0), len(bytes))]
		// A new File has its numbers, and what is left; without a byte it is not there.
		b := start(t, 9, 9)
		b.do(disk.Deed{Kind: create, P: "a", Meta: some, Data: []byte(bytes)}, disk.Deed{Kind: mkdir, P: "b"})
		b.crash(0, torn)
		i, e := b.disk.View().Get("a")
		if left == "" && e != api.ErrNone || left != "" && (string(i.Data) != left || i.Meta != some || e != api.OK) {
			t.Errorf("Crash(0, %d): Get = %v, %d, not %q", torn, i, e, left)
		}
		// One that is written has what is left alone; without a byte it is as it was.
		b = start(t, 9, 9)
		b.do(disk.Deed{Kind: create, P: "a", Data: []byte("uvwxyz")}, disk.Deed{Kind: link, P: "c", Q: "a"})
		b.sync()
		b.do(disk.Deed{Kind: mkdir, P: "d"}, disk.Deed{Kind: write, P: "a", Data: []byte(bytes)}, disk.Deed{Kind: mkdir, P: "b"})
		b.crash(1, torn)
		if left == "" {
			left = "uvwxyz"
		}
		for _, p := range []string{"a", "c"} {
			if i, e := b.disk.Durable().Get(p); string(i.Data) != left || e != api.OK {
				t.Errorf("Crash(1, %d): Get(%q) = %q, %d, not %q", torn, p, i.Data, e, left)
			}
		}
	}
}

// TestNotTorn are deeds of which nothing is left: of other kinds, whatever bytes
// they were handed, or without a byte.
func TestNotTorn(t *testing.T) { // P14.2
	for _, x := range []disk.Deed{
		{Kind: mkdir, P: "x"}, {Kind: sym, P: "x", Q: "abc"}, {Kind: link, P: "x", Q: "f"}, {Kind: set, P: "f", Meta: other}, {Kind: remove, P: "f"}, {Kind: clears, P: "d"}, {Kind: renames, P: "f", Q: "x"},
		{Kind: create, P: "x"}, {Kind: write, P: "f"},
	} {
		for _, bytes := range [][]byte{nil, []byte("abc")} {
			if x.Kind != create && x.Kind != write {
				x.Data = bytes
			}
			for _, torn := range []int{1, 2, 3, 4, math.MaxInt} {
				b := start(t, 9, 99)
				b.do(disk.Deed{Kind: create, P: "f", Data: []byte("abc")}, disk.Deed{Kind: mkdir, P: "d"})
				b.sync()
				before := text(b.disk.View())
				b.answers(x, api.OK)
				// The second deed that is lost is not torn.
				b.answers(disk.Deed{Kind: create, P: "y", Data: []byte("abc")}, api.OK)
				b.crash(0, torn)
				if text(b.disk.View()) != before {
					t.Errorf("Crash(0, %d) left something of %v:\n%s", torn, x, text(b.disk.View()))
				}
			}
		}
	}
}

// TestTornAtTheLimits tears where there is no byte of room more.
func TestTornAtTheLimits(t *testing.T) { // P14.2
	for _, torn := range []int{0, 1, 2, 2048, 4094, 4095, 4096, 4097} {
		b := start(t, 1, 4096)
		b.do(disk.Deed{Kind: create, P: "a", Data: []byte(of(4096))})
		b.crash(0, torn)
		b.do(disk.Deed{Kind: create, P: "a"}, disk.Deed{Kind: write, P: "a", Data: []byte(of(4096))})
		b.crash(1, torn)
		b.do(disk.Deed{Kind: write, P: "a", Data: []byte(of(4096))}, disk.Deed{Kind: write, P: "a"})
		b.crash(1, torn)
	}
}

// TestGoesOn does deeds behind a crash, and crashes anew.
func TestGoesOn(t *testing.T) { // P14.2, P14.3, P14.4
	b := start(t, 20, 99)
	b.do(deeds()...)
	b.crash(4, 2)
	b.answers(disk.Deed{Kind: write, P: "d/f", Data: []byte("new")}, api.OK)
	if i, _ := b.disk.View().Get("g"); string(i.Data) != "new" || i.Links != 2 {
		t.Errorf("Get(g) = %v: a link is none behind a crash", i)
	}
	b.sync()
	b.crash(0, 0)
	b.crash(9, 9)
	b.answers(disk.Deed{Kind: mkdir, P: "new"}, api.OK)
	b.crash(0, 9)
	b.answers(disk.Deed{Kind: mkdir, P: "new"}, api.OK)
	b.crash(1, 9)
	b.answers(disk.Deed{Kind: mkdir, P: "new"}, api.ErrThere)
}

// TestWhatWasSynced crashes in all ways behind deeds that touch nothing of what
// was synced, and that were ended by a fuse, or not.
func TestWhatWasSynced(t *testing.T) { // P14.4
	later := []disk.Deed{
		{Kind: create, P: "new", Data: []byte("abc")}, {Kind: write, P: "new", Data: []byte("de")}, {Kind: renames, P: "new", Q: "m"},
		{Kind: mkdir, P: "n"}, {Kind: link, P: "n/m", Q: "m"}, {Kind: clears, P: "n"}, {Kind: write, P: "m", Data: []byte("fgh")},
	}
	for keep := -1; keep <= len(later)+1; keep++ {
		for torn := range 5 {
			for fuse := -1; fuse < len(later); fuse++ {
				b := start(t, 20, 99)
				b.do(deeds()...)
				b.sync()
				synced := map[string]node.Info{}
				for _, p := range []string{"d", "d/s", "e", "g"} {
					synced[p], _ = b.disk.View().Get(p)
				}
				b.fuse(fuse)
				b.do(later...)
				b.crash(keep, torn)
				for p, want := range synced {
					if i, e := b.disk.View().Get(p); !reflect.DeepEqual(i, want) || e != api.OK {
						t.Fatalf("Crash(%d, %d): Get(%q) = %v, %d, not %v", keep, torn, p, i, e, want)
					}
				}
			}
		}
	}
}

// TestWhatWasTurned crashes behind deeds that turn what was synced: it is as it
// was, or as a deed made it, and nothing of a later deed is there without an
// earlier one.
func TestWhatWasTurned(t *testing.T) { // P14.2, P14.4
	for keep, want := range []string{"abc", "abc", "de", "de", "none", "f"} {
		b := start(t, 9, 9)
		b.do(disk.Deed{Kind: create, P: "a", Data: []byte("abc")})
		b.sync()
		b.do(disk.Deed{Kind: mkdir, P: "b"}, disk.Deed{Kind: write, P: "a", Data: []byte("de")}, disk.Deed{Kind: set, P: "a", Meta: some},
			disk.Deed{Kind: clears, P: "a"}, disk.Deed{Kind: create, P: "a", Data: []byte("f")}, disk.Deed{Kind: mkdir, P: "c"})
		b.crash(keep, 0)
		x := b.disk.Durable()
		i, e := x.Get("a")
		if want == "none" && e != api.ErrNone || want != "none" && (string(i.Data) != want || (i.Meta == some) != (keep == 3)) {
			t.Errorf("Crash(%d, 0): Get(a) = %v, %d, not %q", keep, i, e, want)
		}
		if x.Same("b", "b") != (keep > 0) || x.Same("c", "c") {
			t.Errorf("Crash(%d, 0):\n%s", keep, text(x))
		}
	}
}

// TestFuse burns each number of calls, of which some answer errors.
func TestFuse(t *testing.T) { // P14.1
	for n := range 30 {
		b := start(t, 9, 99)
		b.fuse(n)
		calls, syncs := 0, 0
		for _, x := range deeds() {
			wrong := disk.Deed{Kind: calls % 12, P: "/"}
			if calls%3 == 2 {
				wrong = x
				x = disk.Deed{Kind: mkdir, P: "x/y"}
			}
			for _, y := range []disk.Deed{x, wrong} {
				e := b.do(y)
				if (e == api.ErrStop) != (calls >= n) {
					t.Fatalf("a fuse of %d: the call %d answers %d", n, calls, e)
				}
				if calls++; b.disk.Dark() != (calls >= n) {
					t.Fatalf("a fuse of %d: Dark() = %t behind %d calls", n, b.disk.Dark(), calls)
				}
			}
			if calls%4 == 0 {
				if b.sync(); calls < n {
					syncs++
				}
				if calls++; b.disk.Syncs() != syncs || b.disk.Dark() != (calls >= n) {
					t.Fatalf("a fuse of %d: Syncs() = %d behind %d calls, not %d", n, b.disk.Syncs(), calls, syncs)
				}
			}
		}
		b.crash(n/2, 1)
		if b.disk.Dark() || b.do(disk.Deed{Kind: mkdir, P: "z"}) != api.OK {
			t.Errorf("a fuse of %d: it is dark behind a crash", n)
		}
		for range 40 {
			b.answers(disk.Deed{Kind: mkdir, P: "z"}, api.ErrThere)
		}
	}
}

// TestDark asks all of a disk that is dark: it turns nothing but by a crash.
func TestDark(t *testing.T) { // P14.1, P14.2
	b := start(t, 20, 99)
	b.do(deeds()...)
	b.sync()
	b.answers(disk.Deed{Kind: create, P: "y", Data: []byte("abc")}, api.OK)
	b.fuse(0)
	before := text(b.disk.View())
	for range 3 {
		for kind := -1; kind < 12; kind++ {
			for _, p := range []string{"", "x", "e", "/", of(301)} {
				b.answers(disk.Deed{Kind: kind, P: p, Q: "x"}, api.ErrStop)
			}
		}
		b.sync()
	}
	if text(b.disk.View()) != before || !b.disk.Dark() || b.disk.Syncs() != 1 || len(b.disk.Waits()) != 1 {
		t.Errorf("it is dark: %t, it has\n%s, not\n%s; Syncs() = %d; Waits() = %v", b.disk.Dark(), text(b.disk.View()), before, b.disk.Syncs(), b.disk.Waits())
	}
	b.crash(0, 2)
	if i, _ := b.disk.View().Get("y"); string(i.Data) != "ab" || b.disk.Dark() {
		t.Errorf("Get(y) = %v; Dark() = %t behind a crash", i, b.disk.Dark())
	}
}

// TestFuseAnew hands a disk fuses, whatever it has.
func TestFuseAnew(t *testing.T) { // P14.1
	wrong := disk.Deed{Kind: mkdir}
	for _, n := range []int{-1, -2, math.MinInt} {
		b := start(t, 9, 9)
		for _, first := range []int{n, 0, 1, 5} {
			b.fuse(first)
			b.fuse(n)
			for range 10 {
				b.answers(wrong, api.ErrPath)
				b.sync()
			}
		}
	}
	for _, first := range []int{-1, 0, 1, 2, 9} {
		b := start(t, 9, 9)
		b.fuse(first)
		b.fuse(2)
		b.answers(wrong, api.ErrPath)
		b.sync()
		b.answers(wrong, api.ErrStop)
		b.fuse(first)
		b.crash(0, 0)
		b.answers(wrong, api.ErrPath)
	}
	b := start(t, 9, 9)
	b.fuse(math.MaxInt)
	b.answers(wrong, api.ErrPath)
	b.sync()
	// What is asked burns nothing, and a deed on another tree neither.
	b.fuse(1)
	for range 5 {
		b.look("Fuse")
		disk.Apply(b.disk.View(), disk.Deed{Kind: mkdir, P: "a"})
	}
	b.answers(disk.Deed{Kind: mkdir, P: "a"}, api.OK)
	b.answers(disk.Deed{Kind: mkdir, P: "b"}, api.ErrStop)
}

func TestWhatNoNewGave(t *testing.T) { // P14.2, R6
	for _, d := range []*disk.Disk{nil, {}, new(disk.Disk)} {
		for range 2 {
			for kind := -1; kind < 12; kind++ {
				for _, p := range []string{"", "a", "/"} {
					if e := d.Do(disk.Deed{Kind: kind, P: p, Data: []byte("a")}); e != api.ErrNil {
						t.Errorf("Do = %d", e)
					}
				}
			}
			if d.View() != nil || d.Durable() != nil || len(d.Waits()) != 0 || d.Syncs() != 0 || d.Dark() {
				t.Errorf("it tells %v, %v, %v, %d, %t", d.View(), d.Durable(), d.Waits(), d.Syncs(), d.Dark())
			}
			d.Sync()
			d.Crash(1, 1)
			d.Fuse(0)
			d.Sync()
		}
	}
}

func TestNothingIsShared(t *testing.T) { // P14.2, R3, R4
	b := start(t, 9, 99)
	data := []byte("abc")
	b.disk.Do(disk.Deed{Kind: create, P: "f", Data: data})
	b.want.do(disk.Deed{Kind: create, P: "f", Data: []byte("abc")})
	b.disk.Do(disk.Deed{Kind: write, P: "f", Data: data[1:]})
	b.want.do(disk.Deed{Kind: write, P: "f", Data: []byte("bc")})
	if string(data) != "abc" {
		t.Errorf("Do writes into the bytes that it was handed: %q", data)
	}
	clear(data)
	b.look("what Do was handed")
	l := b.disk.Waits()
	clear(l[0].Data)
	l[1] = disk.Deed{}
	b.look("what Waits gave")
	l = append(b.disk.Waits()[:1], disk.Deed{Kind: mkdir})
	l[0].P = "x"
	b.look("what Waits gave")
	for _, x := range []*node.Tree{b.disk.View(), b.disk.Durable()} {
		x.Mkdir("x", some)
		x.Set("", some)
		x.Clear("f")
		b.look("what View and Durable gave")
	}
	view, durable := b.disk.View(), b.disk.Durable()
	was, had := text(view), text(durable)
	waited := b.disk.Waits()
	b.answers(disk.Deed{Kind: write, P: "f", Data: []byte("else")}, api.OK)
	b.sync()
	b.answers(disk.Deed{Kind: clears, P: "f"}, api.OK)
	b.crash(1, 0)
	if text(view) != was || text(durable) != had || len(waited) != 2 || string(waited[0].Data) != "abc" {
		t.Error("a disk goes on in what it gave")
	}
}

// TestDisksGoOnBySelves looks that two disks have nothing together.
func TestDisksGoOnBySelves(t *testing.T) { // P14.1, R3
	a, b := start(t, 9, 99), start(t, 9, 99)
	a.do(deeds()...)
	b.look("another disk")
	b.answers(disk.Deed{Kind: mkdir, P: "b"}, api.OK)
	a.fuse(0)
	b.sync()
	a.look("another disk")
}

// TestDeepAndMany does more deeds than any stack of calls would bear.
func TestDeepAndMany(t *testing.T) { // R1, P14.2, P14.3
	const levels = 20000
	d := disk.New(levels+10, 9)
	d.Do(disk.Deed{Kind: mkdir, P: "a"})
	d.Do(disk.Deed{Kind: create, P: "a/f", Data: []byte("x")})
	for range levels {
		for _, x := range []disk.Deed{{Kind: mkdir, P: "b"}, {Kind: renames, P: "a", Q: "b/a"}, {Kind: renames, P: "b", Q: "a"}} {
			if e := d.Do(x); e != api.OK {
				t.Fatalf("Do(%v) = %d", x, e)
			}
		}
	}
	if l := d.Waits(); len(l) != 3*levels+2 {
		t.Errorf("%d deeds wait", len(l))
	}
	d.Crash(3*levels+1, 9)
	if nodes, bytes := d.View().Used(); nodes != levels+2 || bytes != 1 {
		t.Errorf("Used() = %d, %d", nodes, bytes)
	}
	d.Do(disk.Deed{Kind: clears, P: "b"})
	d.Sync()
	if l, e := d.Durable().List(""); len(l) != 0 || e != api.OK {
		t.Errorf("List = %q, %d", l, e)
	}
}

// chance is a deed by chance: mostly of few and short paths, so that they meet.
// What a deed has that its kind knows not, is there, too.
func chance(r *rand.Rand, paths []string) disk.Deed {
	kinds := []int{mkdir, mkdir, create, create, create, sym, link, link, write, write, set, remove, clears, renames, renames}
	x := disk.Deed{Kind: kinds[r.Intn(len(kinds))], P: paths[r.Intn(len(paths))], Q: paths[r.Intn(len(paths))], Meta: api.Meta{Mode: int64(r.Intn(9))}}
	x.Data = []byte(strings.Repeat(string(rune('a'+r.Intn(26))), r.Intn(6)))
	switch r.Intn(40) {
	case 0:
		x.Kind = notKinds()[r.Intn(len(notKinds()))]
	case 1:
		x.Meta.Gid = -1
	case 2:
		x.Data = []byte(of(4097))
	}
	return x
}

func texts() []string {
	l := []string{"", "/", "a//b", "a\x00", of(61)}
	for _, a := range []string{"a", "b", "c"} {
		l = append(l, a, a, a)
		for _, b := range []string{"a", "b"} {
			l = append(l, a+"/"+b, a+"/"+b+"/c")
		}
	}
	return l
}

// met is what happened to a deed by chance: its error, or how many bytes a crash
// was to leave of it.
type met struct {
	kind, told int
	torn       bool
}

// TestByChance asks disks and their models for much, and looks at all behind
// each.
func TestByChance(t *testing.T) { // P14.1, P14.2, P14.3, P14.4
	r := rand.New(rand.NewSource(14))
	l := texts()
	seen := map[met]int{}
	for range 200 {
		b := start(t, r.Intn(10), r.Intn(30))
		for range 80 {
			switch r.Intn(16) {
			case 0, 1:
				b.sync()
			case 2:
				waits := b.disk.Waits()
				keep, torn := r.Intn(len(waits)+3)-1, r.Intn(8)-1
				if keep := max(keep, 0); keep < len(waits) {
					seen[met{waits[keep].Kind, min(max(torn, 0), len(waits[keep].Data)), true}]++
				}
				b.crash(keep, torn)
			case 3:
				if r.Intn(2) == 0 {
					b.fuse(r.Intn(9) - 1)
				}
			default:
				x := chance(r, l)
				seen[met{x.Kind, int(b.do(x)), false}]++
			}
		}
	}
	wants := []met{{0, 1, false}, {10, 1, false}, {create, 0, true}, {create, 1, true}, {create, 5, true}, {write, 1, true}, {write, 5, true}, {mkdir, 3, true}}
	for kind := mkdir; kind <= renames; kind++ {
		wants = append(wants, met{kind, int(api.OK), false}, met{kind, int(api.ErrStop), false}, met{kind, int(api.ErrPath), false})
	}
	for _, want := range wants {
		if seen[want] == 0 {
			t.Errorf("by chance never met: %v", want)
		}
	}
}
