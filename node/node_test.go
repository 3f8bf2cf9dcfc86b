package node_test

import (
	"bytes"
	"fmt"
	"maps"
	"math"
	"math/rand"
	"slices"
	"strings"
	"testing"

	"thwart/api"
	"thwart/node"
	"thwart/ppath"
)

// none are numbers of noughts, some are others.
var (
	none = api.Meta{}
	some = api.Meta{Mode: 0o644, Uid: 7, Gid: 8, Mtime: 9}
	most = api.Meta{Mode: 4095, Uid: 1<<40 - 1, Gid: 1<<40 - 1, Mtime: 1 << 50}
)

// of is a text of n signs.
func of(n int) string {
	return strings.Repeat("n", n)
}

// longPath is a path of n bytes, whose names have one byte each; n is odd.
func longPath(n int) string {
	return strings.Repeat("a/", n/2) + "a"
}

// notMetas are numbers of which one may not be.
func notMetas() []api.Meta {
	return []api.Meta{
		{Mode: -1}, {Mode: 4096}, {Mode: math.MaxInt64}, {Mode: math.MinInt64},
		{Uid: -1}, {Uid: 1 << 40}, {Uid: math.MaxInt64}, {Uid: math.MinInt64},
		{Gid: -1}, {Gid: 1 << 40}, {Gid: math.MaxInt64}, {Gid: math.MinInt64},
		{Mtime: -(1 << 50) - 1}, {Mtime: 1<<50 + 1}, {Mtime: math.MaxInt64}, {Mtime: math.MinInt64},
	}
}

// notPaths are texts that are no path, not the empty one either.
func notPaths() []string {
	return []string{".", "..", "/", "/a", "a/", "d//f", "d/.", "d/..", "d/../d", "\x00", "d/\x00", "d/" + of(61), of(61), of(301), longPath(301)}
}

// inode is a node of a model.
type inode struct {
	kind int
	meta api.Meta
	link string
	data string
}

// model is a tree as its paths, each whole, however long, and the nodes they
// lead to; the empty path leads to the root. It is written by the chapter's
// words, and shares nothing with the program.
type model struct {
	paths        map[string]*inode
	nodes, bytes int
}

func newModel(nodes, bytes int) *model {
	return &model{paths: map[string]*inode{"": {kind: api.Dir}}, nodes: max(nodes, 0), bytes: max(bytes, 0)}
}

// isPath looks at each name of a text.
func isPath(p string) bool {
	for _, name := range strings.Split(p, "/") {
		if name == "" || name == "." || name == ".." || len(name) > 60 || strings.Contains(name, "\x00") {
			return false
		}
	}
	return len(p) <= 300
}

func parentOf(p string) string {
	if at := strings.LastIndexByte(p, '/'); at >= 0 {
		return p[:at]
	}
	return ""
}

func isMeta(m api.Meta) bool {
	return m.Mode >= 0 && m.Mode <= 4095 && m.Uid >= 0 && m.Uid < 1<<40 && m.Gid >= 0 && m.Gid < 1<<40 &&
		m.Mtime >= -(1<<50) && m.Mtime <= 1<<50
}

func (m *model) find(p string) (*inode, api.Errno) {
	if p == "" {
		return m.paths[""], api.OK
	}
	if !isPath(p) {
		return nil, api.ErrPath
	}
	for at := range len(p) {
		if p[at] != '/' {
			continue
		}
		n := m.paths[p[:at]]
		if n == nil {
			return nil, api.ErrNone
		}
		if n.kind != api.Dir {
			return nil, api.ErrNotDir
		}
	}
	if m.paths[p] == nil {
		return nil, api.ErrNone
	}
	return m.paths[p], api.OK
}

// mayStand looks whether a path's parent is there, and a Dir.
func (m *model) mayStand(p string) api.Errno {
	if p == "" || !isPath(p) {
		return api.ErrPath
	}
	n, e := m.find(parentOf(p))
	if e != api.OK {
		return e
	}
	if n.kind != api.Dir {
		return api.ErrNotDir
	}
	return api.OK
}

func (m *model) newPath(p string) api.Errno {
	if e := m.mayStand(p); e != api.OK {
		return e
	}
	if m.paths[p] != nil {
		return api.ErrThere
	}
	return api.OK
}

// all are the nodes, each once, without the root, and how many paths each has.
func (m *model) all() map[*inode]int {
	l := map[*inode]int{}
	for p, n := range m.paths {
		if p != "" {
			l[n]++
		}
	}
	return l
}

func (m *model) used() (int, int) {
	nodes, bytes := 0, 0
	for n := range m.all() {
		nodes++
		bytes += len(n.data)
	}
	return nodes, bytes
}

// fits tells whether so much more, or less, has room.
func (m *model) fits(nodes, bytes int) bool {
	hasNodes, hasBytes := m.used()
	return hasNodes+nodes <= m.nodes && hasBytes+bytes <= m.bytes
}

// under are the names under a path, whole from there on, and it itself.
func (m *model) under(p string) []string {
	var l []string
	for q := range m.paths {
		if q == p || p == "" || strings.HasPrefix(q, p+"/") {
			l = append(l, q)
		}
	}
	return l
}

func (m *model) names(p string) []string {
	var l []string
	for q := range m.paths {
		if q != "" && parentOf(q) == p {
			l = append(l, q[strings.LastIndexByte(q, '/')+1:])
		}
	}
	slices.Sort(l)
	return l
}

func (m *model) clone() *model {
	c := newModel(m.nodes, m.bytes)
	copies := map[*inode]*inode{}
	for p, n := range m.paths {
		if copies[n] == nil {
			whole := *n
			copies[n] = &whole
		}
		c.paths[p] = copies[n]
	}
	return c
}

// call is one of those that turn a tree.
type call struct {
	name string
	p, q string // q is a Sym's link, too
	meta api.Meta
	data string
}

func (c call) String() string {
	return fmt.Sprintf("%s(%.80q, %.80q, %v, %d bytes)", c.name, c.p, c.q, c.meta, len(c.data))
}

// do calls a tree.
func (c call) do(t *node.Tree) api.Errno {
	switch c.name {
	case "Mkdir":
		return t.Mkdir(c.p, c.meta)
	case "Create":
		return t.Create(c.p, c.meta, []byte(c.data))
	case "Sym":
		return t.Sym(c.p, c.meta, c.q)
	case "Link":
		return t.Link(c.p, c.q)
	case "Write":
		return t.Write(c.p, []byte(c.data))
	case "Set":
		return t.Set(c.p, c.meta)
	case "Remove":
		return t.Remove(c.p)
	case "Clear":
		return t.Clear(c.p)
	case "Rename":
		return t.Rename(c.p, c.q)
	}
	panic(c.name)
}

// told does the same to a model.
func (c call) told(m *model) api.Errno {
	switch c.name {
	case "Mkdir", "Create", "Sym":
		return c.made(m)
	case "Link":
		if e := m.newPath(c.p); e != api.OK {
			return e
		}
		n, e := m.find(c.q)
		if e != api.OK {
			return e
		}
		if n.kind != api.File {
			return api.ErrKind
		}
		m.paths[c.p] = n
		return api.OK
	case "Rename":
		return c.renamed(m)
	}
	n, e := m.find(c.p)
	if e != api.OK {
		return e
	}
	switch c.name {
	case "Write":
		return c.written(m, n)
	case "Set":
		if !isMeta(c.meta) {
			return api.ErrBig
		}
		n.meta = c.meta
		return api.OK
	}
	l := m.under(c.p)
	if c.p == "" {
		return api.ErrArg
	}
	if c.name == "Remove" && len(l) > 1 {
		return api.ErrNotEmpty
	}
	for _, p := range l {
		delete(m.paths, p)
	}
	return api.OK
}

func (c call) made(m *model) api.Errno {
	kind := map[string]int{"Mkdir": api.Dir, "Create": api.File, "Sym": api.Sym}[c.name]
	n := &inode{kind: kind, meta: c.meta}
	if e := m.newPath(c.p); e != api.OK {
		return e
	}
	if !isMeta(c.meta) {
		return api.ErrBig
	}
	switch kind {
	case api.File:
		n.data = c.data
		if len(c.data) > 4096 {
			return api.ErrBig
		}
	case api.Sym:
		n.link = c.q
		if c.q == "" || strings.Contains(c.q, "\x00") {
			return api.ErrForm
		}
		if len(c.q) > 300 {
			return api.ErrBig
		}
	}
	if !m.fits(1, len(n.data)) {
		return api.ErrFull
	}
	m.paths[c.p] = n
	return api.OK
}

func (c call) written(m *model, n *inode) api.Errno {
	if n.kind == api.Dir {
		return api.ErrIsDir
	}
	if n.kind == api.Sym {
		return api.ErrKind
	}
	if len(c.data) > 4096 {
		return api.ErrBig
	}
	if !m.fits(0, len(c.data)-len(n.data)) {
		return api.ErrFull
	}
	n.data = c.data
	return api.OK
}

func (c call) renamed(m *model) api.Errno {
	n, e := m.find(c.p)
	if e != api.OK {
		return e
	}
	if c.p == "" {
		return api.ErrArg
	}
	if e := m.mayStand(c.q); e != api.OK {
		return e
	}
	old := m.paths[c.q]
	if old == n {
		return api.OK
	}
	if n.kind != api.Dir {
		if old != nil && old.kind == api.Dir {
			return api.ErrIsDir
		}
		delete(m.paths, c.p)
		m.paths[c.q] = n
		return api.OK
	}
	if old != nil {
		return api.ErrThere
	}
	if strings.HasPrefix(c.q, c.p+"/") {
		return api.ErrArg
	}
	moved := map[string]*inode{}
	for _, p := range m.under(c.p) {
		moved[c.q+p[len(c.p):]] = m.paths[p]
		delete(m.paths, p)
	}
	maps.Copy(m.paths, moved)
	return api.OK
}

// both are a tree and its model, that are called by the same calls.
type both struct {
	t    *testing.T
	tree *node.Tree
	want *model
}

func start(t *testing.T, nodes, bytes int) *both {
	return &both{t: t, tree: node.New(nodes, bytes), want: newModel(nodes, bytes)}
}

// call does it, looks for the same error, and looks at the whole tree.
func (b *both) call(c call) api.Errno {
	b.t.Helper()
	e, want := c.do(b.tree), c.told(b.want)
	if e != want {
		b.t.Fatalf("%v = %d, not %d", c, e, want)
	}
	b.look(c.String())
	return e
}

// answers does it, and looks for that error, which a test tells itself.
func (b *both) answers(c call, want api.Errno) {
	b.t.Helper()
	if e := b.call(c); e != want {
		b.t.Fatalf("%v = %d, not %d", c, e, want)
	}
}

// look holds all that a tree tells against the model.
func (b *both) look(what string) {
	b.t.Helper()
	nodes, bytes := b.tree.Used()
	wantNodes, wantBytes := b.want.used()
	if nodes != wantNodes || bytes != wantBytes {
		b.t.Fatalf("%s: Used() = %d, %d, not %d, %d", what, nodes, bytes, wantNodes, wantBytes)
	}
	links := b.want.all()
	links[b.want.paths[""]] = 1
	for p, n := range b.want.paths {
		b.lookAt(what, p, n, links[n])
	}
}

func (b *both) lookAt(what, p string, n *inode, links int) {
	b.t.Helper()
	if p != "" && !isPath(p) {
		if i, e := b.tree.Get(p); !isNothing(i) || e != api.ErrPath {
			b.t.Fatalf("%s: Get(%.80q) = %v, %d, of what is no path", what, p, i, e)
		}
		return
	}
	i, e := b.tree.Get(p)
	if e != api.OK || i.Kind != n.kind || i.Meta != n.meta || i.Link != n.link || string(i.Data) != n.data || i.Links != links {
		b.t.Fatalf("%s: Get(%.80q) = %v, %d, not %v with %d paths", what, p, i, e, *n, links)
	}
	names, e := b.tree.List(p)
	if n.kind != api.Dir {
		if len(names) != 0 || e != api.ErrNotDir {
			b.t.Fatalf("%s: List(%.80q) = %q, %d", what, p, names, e)
		}
	} else if want := b.want.names(p); !slices.Equal(names, want) || e != api.OK {
		b.t.Fatalf("%s: List(%.80q) = %q, %d, not %q", what, p, names, e, want)
	}
	// All pairs of many long paths would take seconds.
	if len(b.want.paths) > 100 {
		return
	}
	for q, other := range b.want.paths {
		if same := b.tree.Same(p, q); same != (n == other && (q == "" || isPath(q))) {
			b.t.Fatalf("%s: Same(%.80q, %.80q) = %t", what, p, q, same)
		}
	}
}

func isNothing(i node.Info) bool {
	return i.Kind == 0 && i.Meta == none && i.Link == "" && len(i.Data) == 0 && i.Links == 0
}

// grown has a Dir `d` with a Dir, a File `f` that is `g`, too, and a Sym, and in
// the root a File, a Sym and an empty Dir.
func grown(t *testing.T) *both {
	b := start(t, 100, 100000)
	for _, c := range []call{
		{name: "Mkdir", p: "d", meta: some},
		{name: "Mkdir", p: "d/e", meta: none},
		{name: "Create", p: "d/f", meta: most, data: "abc"},
		{name: "Link", p: "g", q: "d/f"},
		{name: "Sym", p: "d/s", meta: some, q: "f"},
		{name: "Create", p: "h", data: "de"},
		{name: "Sym", p: "s", q: "d"},
		{name: "Mkdir", p: "m"},
	} {
		b.answers(c, api.OK)
	}
	return b
}

// calls are all that turn a tree, of a path.
func calls(p string) []call {
	return []call{
		{name: "Mkdir", p: p}, {name: "Create", p: p}, {name: "Sym", p: p, q: "x"}, {name: "Link", p: p, q: "h"},
		{name: "Write", p: p}, {name: "Set", p: p}, {name: "Remove", p: p}, {name: "Clear", p: p}, {name: "Rename", p: p, q: "new"},
	}
}

func TestNew(t *testing.T) { // P13.1
	for _, room := range [][2]int{{0, 0}, {9, 9}, {-1, -1}, {math.MinInt, math.MinInt}, {math.MaxInt, math.MaxInt}} {
		b := start(t, room[0], room[1])
		b.look("New")
		if l, e := b.tree.List(""); len(l) != 0 || e != api.OK {
			t.Errorf("New(%v): List = %q, %d", room, l, e)
		}
		if i, e := b.tree.Get(""); e != api.OK || i.Kind != api.Dir || i.Meta != none || i.Links != 1 || len(i.Data) != 0 || i.Link != "" {
			t.Errorf("New(%v): Get = %v, %d", room, i, e)
		}
	}
	a, b := node.New(9, 9), node.New(9, 9)
	a.Mkdir("a", none)
	if l, _ := b.List(""); len(l) != 0 {
		t.Errorf("two trees share their names: %q", l)
	}
}

func TestRoom(t *testing.T) { // P13.1, P13.2
	for _, room := range [][2]int{{0, 9}, {-1, 9}, {math.MinInt, 9}} {
		b := start(t, room[0], room[1])
		b.answers(call{name: "Mkdir", p: "a"}, api.ErrFull)
		b.answers(call{name: "Create", p: "a"}, api.ErrFull)
		b.answers(call{name: "Sym", p: "a", q: "b"}, api.ErrFull)
	}
	for _, bytes := range []int{0, -1, math.MinInt} {
		b := start(t, 9, bytes)
		b.answers(call{name: "Create", p: "a", data: "x"}, api.ErrFull)
		b.answers(call{name: "Create", p: "a"}, api.OK)
		b.answers(call{name: "Write", p: "a", data: "x"}, api.ErrFull)
		b.answers(call{name: "Write", p: "a"}, api.OK)
		b.answers(call{name: "Sym", p: "s", q: of(300)}, api.OK)
		b.answers(call{name: "Mkdir", p: "d"}, api.OK)
	}
	b := start(t, math.MaxInt, math.MaxInt)
	b.answers(call{name: "Create", p: "a", data: of(4096)}, api.OK)
	b.answers(call{name: "Write", p: "a", data: of(4095)}, api.OK)
	b.answers(call{name: "Create", p: "b", data: of(4096)}, api.OK)
	b.answers(call{name: "Remove", p: "a"}, api.OK)
}

// TestRoomIsGivenBack fills a tree up, and gets room by each call that lets
// something go.
func TestRoomIsGivenBack(t *testing.T) { // P13.2, P13.3, P13.4, P13.5
	for _, free := range []call{
		{name: "Remove", p: "a"}, {name: "Clear", p: "a"}, {name: "Clear", p: "d"}, {name: "Rename", p: "b", q: "a"}, {name: "Rename", p: "s", q: "a"},
	} {
		b := start(t, 5, 6)
		b.answers(call{name: "Create", p: "a", data: "abc"}, api.OK)
		b.answers(call{name: "Mkdir", p: "d"}, api.OK)
		b.answers(call{name: "Create", p: "d/a", data: "de"}, api.OK)
		b.answers(call{name: "Create", p: "b", data: "f"}, api.OK)
		b.answers(call{name: "Sym", p: "s", q: "a"}, api.OK)
		for _, c := range []call{{name: "Mkdir", p: "x"}, {name: "Create", p: "x"}, {name: "Sym", p: "x", q: "y"}, {name: "Write", p: "b", data: "fg"}} {
			b.answers(c, api.ErrFull)
		}
		b.answers(call{name: "Link", p: "x", q: "b"}, api.OK)
		b.answers(call{name: "Clear", p: "x"}, api.OK)
		b.answers(free, api.OK)
		b.answers(call{name: "Create", p: "x", data: "gh"}, api.OK)
		b.call(call{name: "Mkdir", p: "y"})
		b.answers(call{name: "Mkdir", p: "z"}, api.ErrFull)
	}
}

// TestRoomAtItsEdge goes up to the last byte, and no further.
func TestRoomAtItsEdge(t *testing.T) { // P13.2, P13.3
	b := start(t, 3, 10)
	b.answers(call{name: "Create", p: "a", data: of(11)}, api.ErrFull)
	b.answers(call{name: "Create", p: "a", data: of(10)}, api.OK)
	b.answers(call{name: "Create", p: "b", data: "x"}, api.ErrFull)
	b.answers(call{name: "Create", p: "b"}, api.OK)
	b.answers(call{name: "Write", p: "b", data: "x"}, api.ErrFull)
	b.answers(call{name: "Write", p: "a", data: of(11)}, api.ErrFull)
	b.answers(call{name: "Write", p: "a", data: strings.Repeat("m", 10)}, api.OK)
	b.answers(call{name: "Write", p: "a", data: of(7)}, api.OK)
	b.answers(call{name: "Write", p: "b", data: of(4)}, api.ErrFull)
	b.answers(call{name: "Write", p: "b", data: of(3)}, api.OK)
	b.answers(call{name: "Link", p: "c", q: "b"}, api.OK)
	b.answers(call{name: "Link", p: "d", q: "c"}, api.OK)
	b.answers(call{name: "Mkdir", p: "e"}, api.OK)
	b.answers(call{name: "Mkdir", p: "f"}, api.ErrFull)
	b.answers(call{name: "Link", p: "e/f", q: "d"}, api.OK)
	b.answers(call{name: "Remove", p: "b"}, api.OK)
	b.answers(call{name: "Create", p: "f"}, api.ErrFull)
	b.answers(call{name: "Write", p: "e/f", data: of(4)}, api.ErrFull)
}

func TestFinding(t *testing.T) { // P13.1
	b := grown(t)
	finds := map[string]api.Errno{
		"": api.OK, "d": api.OK, "d/e": api.OK, "d/f": api.OK, "g": api.OK, "s": api.OK, "d/s": api.OK,
		"x": api.ErrNone, "d/x": api.ErrNone, "x/y": api.ErrNone, "d/x/y": api.ErrNone, "d/e/f": api.ErrNone, "x/y/z": api.ErrNone,
		"g/x": api.ErrNotDir, "g/x/y": api.ErrNotDir, "d/f/x": api.ErrNotDir, "s/e": api.ErrNotDir, "s/f": api.ErrNotDir, "d/s/x": api.ErrNotDir,
		longPath(299): api.ErrNone, of(60): api.ErrNone, "D": api.ErrNone, "d ": api.ErrNone,
	}
	for _, p := range notPaths() {
		finds[p] = api.ErrPath
	}
	for p, want := range finds {
		i, e := b.tree.Get(p)
		if e != want || (e != api.OK) != isNothing(i) {
			t.Errorf("Get(%.80q) = %v, %d, not %d", p, i, e, want)
		}
		if same := b.tree.Same(p, p); same != (want == api.OK) {
			t.Errorf("Same(%.80q, itself) = %t", p, same)
		}
		if b.tree.Same(p, "") != (p == "") || b.tree.Same("", p) != (p == "") {
			t.Errorf("Same(%.80q, the root) is wrong", p)
		}
		if l, e := b.tree.List(p); want != api.OK && (len(l) != 0 || e != want) {
			t.Errorf("List(%.80q) = %q, %d, not %d", p, l, e, want)
		}
		for _, c := range calls(p) {
			switch c.name {
			case "Mkdir", "Create", "Sym", "Link":
				continue
			}
			if want != api.OK {
				b.answers(c, want)
			}
		}
		if want != api.OK {
			b.answers(call{name: "Link", p: "new", q: p}, want)
		}
	}
}

func TestGet(t *testing.T) { // P13.1
	b := grown(t)
	for p, want := range map[string]node.Info{
		"":    {Kind: api.Dir, Links: 1},
		"d":   {Kind: api.Dir, Meta: some, Links: 1},
		"d/f": {Kind: api.File, Meta: most, Data: []byte("abc"), Links: 2},
		"g":   {Kind: api.File, Meta: most, Data: []byte("abc"), Links: 2},
		"h":   {Kind: api.File, Data: []byte("de"), Links: 1},
		"d/s": {Kind: api.Sym, Meta: some, Link: "f", Links: 1},
		"s":   {Kind: api.Sym, Link: "d", Links: 1},
	} {
		i, e := b.tree.Get(p)
		if e != api.OK || i.Kind != want.Kind || i.Meta != want.Meta || i.Link != want.Link || !bytes.Equal(i.Data, want.Data) || i.Links != want.Links {
			t.Errorf("Get(%q) = %v, %d, not %v", p, i, e, want)
		}
	}
	for _, pair := range [][2]string{{"d/f", "g"}, {"g", "d/f"}, {"g", "g"}, {"", ""}} {
		if !b.tree.Same(pair[0], pair[1]) {
			t.Errorf("Same(%q): they are one", pair)
		}
	}
	for _, pair := range [][2]string{{"g", "h"}, {"s", "d"}, {"d/s", "d/f"}, {"x", "x"}, {"g", "x"}, {"x", "g"}, {"", "d"}, {"/", "/"}, {"s/f", "d/f"}} {
		if b.tree.Same(pair[0], pair[1]) {
			t.Errorf("Same(%q): they are not", pair)
		}
	}
}

func TestList(t *testing.T) { // P13.1
	b := start(t, 1000, 0)
	names := []string{"b", "a", "a.b", "A", "aa", "-", "\xff", "\x01", "\u00e4", "a b", "0", "10", "9", of(60), "...", "a-", "Z"}
	for i := range 200 {
		names = append(names, fmt.Sprint("n", i*7919%200))
	}
	for _, name := range names {
		if e := b.tree.Mkdir(name, none); e != api.OK {
			t.Fatalf("Mkdir(%q) = %d", name, e)
		}
		b.tree.Mkdir(name+"/"+name, none)
	}
	slices.Sort(names)
	if l, e := b.tree.List(""); !slices.Equal(l, names) || e != api.OK {
		t.Errorf("List = %q, %d, not %q", l, e, names)
	}
	if l, e := b.tree.List("aa"); !slices.Equal(l, []string{"aa"}) || e != api.OK {
		t.Errorf("List(aa) = %q, %d", l, e)
	}
	if l, e := b.tree.List("aa/aa"); len(l) != 0 || e != api.OK {
		t.Errorf("List(aa/aa) = %q, %d", l, e)
	}
	b = grown(t)
	for _, p := range []string{"g", "d/f", "s", "d/s"} {
		if l, e := b.tree.List(p); len(l) != 0 || e != api.ErrNotDir {
			t.Errorf("List(%q) = %q, %d", p, l, e)
		}
	}
}

// TestNewPath makes each kind at paths that may not be new, or may.
func TestNewPath(t *testing.T) { // P13.2
	wants := map[string]api.Errno{
		"": api.ErrPath, "new": api.OK, "d/new": api.OK, "d/e/new": api.OK, "m/new": api.OK, of(60): api.OK, "d/" + of(60): api.OK,
		"d": api.ErrThere, "d/e": api.ErrThere, "d/f": api.ErrThere, "g": api.ErrThere, "s": api.ErrThere, "d/s": api.ErrThere,
		"x/y": api.ErrNone, "d/x/y": api.ErrNone, "x/y/z": api.ErrNone,
		"g/x": api.ErrNotDir, "s/x": api.ErrNotDir, "s/f": api.ErrNotDir, "d/s/x": api.ErrNotDir, "g/x/y": api.ErrNotDir, "d/f/x/y/z": api.ErrNotDir,
	}
	for _, p := range notPaths() {
		wants[p] = api.ErrPath
	}
	for p, want := range wants {
		for _, c := range calls(p)[:4] {
			grown(t).answers(c, want)
		}
		// What is told of the path is told ahead of all else.
		if want != api.OK {
			for _, c := range []call{
				{name: "Mkdir", p: p, meta: notMetas()[0]}, {name: "Create", p: p, meta: notMetas()[0]}, {name: "Create", p: p, data: of(4097)},
				{name: "Sym", p: p, meta: notMetas()[0]}, {name: "Sym", p: p}, {name: "Link", p: p}, {name: "Link", p: p, q: "x"}, {name: "Link", p: p, q: "/"},
			} {
				grown(t).answers(c, want)
			}
		}
	}
}

func TestPathsOfMostBytes(t *testing.T) { // P13.2
	b := start(t, 1000, 9)
	for n := 1; n < 299; n += 2 {
		if e := b.tree.Mkdir(longPath(n), none); e != api.OK {
			t.Fatalf("Mkdir of %d bytes = %d", n, e)
		}
	}
	if e := b.tree.Create(longPath(299), none, []byte("x")); e != api.OK {
		t.Errorf("Create of 299 bytes = %d", e)
	}
	if e := b.tree.Create(longPath(299)+"b", none, []byte("y")); e != api.OK {
		t.Errorf("Create of 300 bytes = %d", e)
	}
	if e := b.tree.Create(longPath(299)+"bc", none, nil); e != api.ErrPath {
		t.Errorf("Create of 301 bytes = %d", e)
	}
	if nodes, bytes := b.tree.Used(); nodes != 151 || bytes != 2 {
		t.Errorf("Used() = %d, %d", nodes, bytes)
	}
}

func TestNumbers(t *testing.T) { // P13.2, P13.3
	for _, m := range []api.Meta{none, some, most, {Mtime: -(1 << 50)}, {Mode: 4095}, {Uid: 1<<40 - 1}, {Gid: 1<<40 - 1}, {Mtime: -1}} {
		b := grown(t)
		b.answers(call{name: "Mkdir", p: "new", meta: m}, api.OK)
		b.answers(call{name: "Create", p: "new/f", meta: m}, api.OK)
		b.answers(call{name: "Sym", p: "new/s", meta: m, q: "x"}, api.OK)
		for _, p := range []string{"", "d", "d/f", "g", "s", "new"} {
			b.answers(call{name: "Set", p: p, meta: m}, api.OK)
		}
	}
	for _, m := range notMetas() {
		b := grown(t)
		b.answers(call{name: "Mkdir", p: "new", meta: m}, api.ErrBig)
		b.answers(call{name: "Create", p: "new", meta: m}, api.ErrBig)
		b.answers(call{name: "Sym", p: "new", meta: m, q: "x"}, api.ErrBig)
		b.answers(call{name: "Sym", p: "new", meta: m}, api.ErrBig)
		for _, p := range []string{"", "d", "d/f", "g", "s"} {
			b.answers(call{name: "Set", p: p, meta: m}, api.ErrBig)
		}
		full := start(t, 0, 0)
		full.answers(call{name: "Mkdir", p: "new", meta: m}, api.ErrBig)
		full.answers(call{name: "Create", p: "new", meta: m}, api.ErrBig)
		full.answers(call{name: "Sym", p: "new", meta: m, q: "x"}, api.ErrBig)
	}
}

func TestCreate(t *testing.T) { // P13.2
	b := grown(t)
	b.answers(call{name: "Create", p: "a", data: of(4096)}, api.OK)
	b.answers(call{name: "Create", p: "b", data: of(4097)}, api.ErrBig)
	b.answers(call{name: "Create", p: "b", data: of(1 << 20)}, api.ErrBig)
	b.answers(call{name: "Create", p: "b", data: "\x00\xff\n"}, api.OK)
	b.answers(call{name: "Create", p: "c"}, api.OK)
	b.answers(call{name: "Create", p: "b/c"}, api.ErrNotDir)
	start(t, 0, 0).answers(call{name: "Create", p: "a", data: of(4097)}, api.ErrBig)
}

func TestSym(t *testing.T) { // P13.2
	b := grown(t)
	for i, link := range []string{"x", ".", "..", "/", "//", "../../x", "a/", of(61), of(299), of(300), "\xff", " "} {
		b.answers(call{name: "Sym", p: fmt.Sprint("l", i), q: link}, api.OK)
	}
	for _, link := range []string{"", "\x00", "a\x00", "\x00a", "a\x00b", strings.Repeat("\x00", 301), of(300) + "\x00", of(1<<20) + "\x00"} {
		b.answers(call{name: "Sym", p: "new", q: link}, api.ErrForm)
		start(t, 0, 0).answers(call{name: "Sym", p: "new", q: link}, api.ErrForm)
	}
	for _, link := range []string{of(301), of(1 << 20), longPath(301)} {
		b.answers(call{name: "Sym", p: "new", q: link}, api.ErrBig)
		start(t, 0, 0).answers(call{name: "Sym", p: "new", q: link}, api.ErrBig)
	}
	// The chapter's example: no link is followed.
	b = start(t, 9, 9)
	b.answers(call{name: "Mkdir", p: "b"}, api.OK)
	b.answers(call{name: "Sym", p: "a", q: "b"}, api.OK)
	b.answers(call{name: "Create", p: "a/b"}, api.ErrNotDir)
}

func TestLink(t *testing.T) { // P13.2
	b := grown(t)
	for _, old := range []string{"", "d", "m", "s", "d/s"} {
		b.answers(call{name: "Link", p: "new", q: old}, api.ErrKind)
	}
	b.answers(call{name: "Link", p: "d/e/new", q: "g"}, api.OK)
	b.answers(call{name: "Link", p: "other", q: "d/e/new"}, api.OK)
	if i, _ := b.tree.Get("d/f"); i.Links != 4 {
		t.Errorf("a File of four paths has %d", i.Links)
	}
	b.answers(call{name: "Link", p: "other", q: "other"}, api.ErrThere)
	b.answers(call{name: "Link", p: "other/x", q: "h"}, api.ErrNotDir)
	b.answers(call{name: "Write", p: "other", data: "all"}, api.OK)
	b.answers(call{name: "Set", p: "d/e/new", meta: some}, api.OK)
	for _, p := range []string{"d/f", "g", "d/e/new", "other"} {
		if i, _ := b.tree.Get(p); string(i.Data) != "all" || i.Meta != some {
			t.Errorf("Get(%q) = %v", p, i)
		}
	}
	for i, p := range []string{"d/f", "other", "d/e/new", "g"} {
		b.answers(call{name: "Remove", p: p}, api.OK)
		if nodes, bytes := b.tree.Used(); (nodes == 6) != (i == 3) || (bytes == 2) != (i == 3) {
			t.Errorf("behind Remove(%q): Used() = %d, %d", p, nodes, bytes)
		}
	}
}

func TestWrite(t *testing.T) { // P13.3
	b := grown(t)
	for _, p := range []string{"", "d", "m"} {
		b.answers(call{name: "Write", p: p, data: "x"}, api.ErrIsDir)
		b.answers(call{name: "Write", p: p, data: of(4097)}, api.ErrIsDir)
	}
	for _, p := range []string{"s", "d/s"} {
		b.answers(call{name: "Write", p: p, data: "x"}, api.ErrKind)
		b.answers(call{name: "Write", p: p, data: of(4097)}, api.ErrKind)
	}
	b.answers(call{name: "Write", p: "g", data: of(4097)}, api.ErrBig)
	b.answers(call{name: "Write", p: "g", data: of(4096)}, api.OK)
	b.answers(call{name: "Write", p: "d/f"}, api.OK)
	b.answers(call{name: "Write", p: "d/f", data: "\x00"}, api.OK)
	full := start(t, 1, 0)
	full.answers(call{name: "Create", p: "a"}, api.OK)
	full.answers(call{name: "Write", p: "a", data: of(4097)}, api.ErrBig)
	full.answers(call{name: "Write", p: "a", data: of(4096)}, api.ErrFull)
}

func TestRemove(t *testing.T) { // P13.4
	b := grown(t)
	b.answers(call{name: "Remove", p: ""}, api.ErrArg)
	b.answers(call{name: "Remove", p: "d"}, api.ErrNotEmpty)
	for _, p := range []string{"d/e", "g", "d/f", "s", "d/s", "d", "m", "h"} {
		b.answers(call{name: "Remove", p: p}, api.OK)
		b.answers(call{name: "Remove", p: p}, api.ErrNone)
	}
	if nodes, bytes := b.tree.Used(); nodes != 0 || bytes != 0 {
		t.Errorf("Used() = %d, %d", nodes, bytes)
	}
	b.answers(call{name: "Remove", p: ""}, api.ErrArg)
}

func TestClear(t *testing.T) { // P13.4
	b := grown(t)
	b.answers(call{name: "Clear", p: ""}, api.ErrArg)
	b.answers(call{name: "Link", p: "d/e/i", q: "g"}, api.OK)
	b.answers(call{name: "Clear", p: "d"}, api.OK)
	if i, e := b.tree.Get("g"); e != api.OK || i.Links != 1 || string(i.Data) != "abc" {
		t.Errorf("Get(g) = %v, %d: it has a path that was not cleared", i, e)
	}
	b.answers(call{name: "Clear", p: "d"}, api.ErrNone)
	b.answers(call{name: "Clear", p: "d/e"}, api.ErrNone)
	for _, p := range []string{"s", "g", "m", "h"} {
		b.answers(call{name: "Clear", p: p}, api.OK)
	}
	b.answers(call{name: "Clear", p: ""}, api.ErrArg)
	// A File whose paths are all cleared at once goes once.
	b.answers(call{name: "Mkdir", p: "d"}, api.OK)
	b.answers(call{name: "Create", p: "d/a", data: "abc"}, api.OK)
	b.answers(call{name: "Link", p: "d/b", q: "d/a"}, api.OK)
	b.answers(call{name: "Clear", p: "d"}, api.OK)
	if nodes, bytes := b.tree.Used(); nodes != 0 || bytes != 0 {
		t.Errorf("Used() = %d, %d", nodes, bytes)
	}
}

func TestRename(t *testing.T) { // P13.4
	for _, x := range []struct {
		from, to string
		want     api.Errno
	}{
		{"", "new", api.ErrArg}, {"", "", api.ErrArg}, {"", "d", api.ErrArg}, {"", "/", api.ErrArg}, {"x", "", api.ErrNone}, {"x", "/", api.ErrNone},
		{"d", "", api.ErrPath}, {"g", "", api.ErrPath}, {"d", "d/", api.ErrPath}, {"d", longPath(301), api.ErrPath}, {"g", "d/..", api.ErrPath},
		{"d", "x/new", api.ErrNone}, {"g", "x/new", api.ErrNone}, {"d", "d/x/new", api.ErrNone}, {"g", "d/x/new", api.ErrNone},
		{"d", "g/new", api.ErrNotDir}, {"g", "s/new", api.ErrNotDir}, {"g", "g/new", api.ErrNotDir}, {"s", "s/new", api.ErrNotDir},
		{"d", "d/f/new", api.ErrNotDir}, {"d", "g/x/new", api.ErrNotDir}, {"d", "d/s/new/y", api.ErrNotDir},
		// The same node.
		{"d", "d", api.OK}, {"g", "g", api.OK}, {"s", "s", api.OK}, {"g", "d/f", api.OK}, {"d/f", "g", api.OK}, {"d/e", "d/e", api.OK},
		// A Dir.
		{"d", "m", api.ErrThere}, {"d", "g", api.ErrThere}, {"d", "s", api.ErrThere}, {"m", "d", api.ErrThere}, {"d/e", "d", api.ErrThere},
		{"d", "d/e", api.ErrThere}, {"d", "d/f", api.ErrThere}, {"d", "d/s", api.ErrThere},
		{"d", "d/new", api.ErrArg}, {"d", "d/e/new", api.ErrArg}, {"d/e", "d/e/new", api.ErrArg},
		{"d", "new", api.OK}, {"d", "m/d", api.OK}, {"d/e", "d/i", api.OK}, {"d/e", "e", api.OK}, {"m", "d/e/m", api.OK}, {"d", "dd", api.OK}, {"d/e", "d/ee", api.OK},
		// Others.
		{"g", "d", api.ErrIsDir}, {"g", "m", api.ErrIsDir}, {"s", "d", api.ErrIsDir}, {"d/f", "d", api.ErrIsDir}, {"d/s", "d/e", api.ErrIsDir},
		{"g", "new", api.OK}, {"s", "new", api.OK}, {"g", "d/e/new", api.OK}, {"d/f", "f", api.OK}, {"d/s", "m/s", api.OK}, {"h", "hh", api.OK},
		{"g", "h", api.OK}, {"h", "g", api.OK}, {"h", "d/f", api.OK}, {"s", "g", api.OK}, {"g", "s", api.OK}, {"s", "d/s", api.OK}, {"d/f", "d/s", api.OK}, {"d/s", "h", api.OK},
	} {
		b := grown(t)
		before := b.want.clone()
		b.answers(call{name: "Rename", p: x.from, q: x.to}, x.want)
		if x.want != api.OK || before.paths[x.from] == before.paths[x.to] {
			if len(b.want.paths) != len(before.paths) {
				t.Errorf("Rename(%q, %q) turned the tree", x.from, x.to)
			}
		} else if _, e := b.tree.Get(x.from); e != api.ErrNone {
			t.Errorf("Rename(%q, %q): Get of the first = %d", x.from, x.to, e)
		}
	}
}

// TestRenameTurnsBackAgain moves a Dir to where its paths are too long, and back.
func TestRenameTurnsBackAgain(t *testing.T) { // P13.4, P13.5
	b := start(t, 300, 9)
	for n := 1; n <= 299; n += 2 {
		if e := b.tree.Mkdir(longPath(n), none); e != api.OK {
			t.Fatal(e)
		}
		b.want.paths[longPath(n)] = &inode{kind: api.Dir}
	}
	b.look("Mkdir")
	b.answers(call{name: "Mkdir", p: "b"}, api.OK)
	b.answers(call{name: "Mkdir", p: "b/c"}, api.OK)
	b.answers(call{name: "Create", p: "b/c/f", data: "x"}, api.OK)
	b.answers(call{name: "Rename", p: "b", q: longPath(297) + "/b"}, api.OK)
	b.answers(call{name: "Create", p: longPath(297) + "/b/c", data: "x"}, api.ErrPath)
	b.answers(call{name: "Remove", p: longPath(297) + "/b"}, api.ErrNotEmpty)
	clone := b.tree.Clone()
	b.answers(call{name: "Rename", p: longPath(297) + "/b", q: "b"}, api.OK)
	if i, e := b.tree.Get("b/c/f"); e != api.OK || string(i.Data) != "x" {
		t.Errorf("Get(b/c/f) = %v, %d", i, e)
	}
	clone.Rename("a/a", "q")
	if clone.Clear("a"); clone.Rename("q/"+longPath(293)+"/b", "b") != api.OK || clone.Clear("q") != api.OK {
		t.Error("the clone's path is not there")
	}
	nodes, bytes := clone.Used()
	if i, e := clone.Get("b/c/f"); e != api.OK || string(i.Data) != "x" || nodes != 3 || bytes != 1 {
		t.Errorf("a clone's Get(b/c/f) = %v, %d; Used() = %d, %d", i, e, nodes, bytes)
	}
}

func TestWhatNoNewGave(t *testing.T) { // P13.4, R6
	for _, x := range []*node.Tree{nil, {}, new(node.Tree)} {
		for _, p := range []string{"", "a", "a/b", "/", of(301)} {
			for _, c := range calls(p) {
				if e := c.do(x); e != api.ErrNil {
					t.Errorf("%v = %d", c, e)
				}
			}
			if i, e := x.Get(p); !isNothing(i) || e != api.ErrNil {
				t.Errorf("Get(%.80q) = %v, %d", p, i, e)
			}
			if l, e := x.List(p); len(l) != 0 || e != api.ErrNil {
				t.Errorf("List(%.80q) = %q, %d", p, l, e)
			}
			if x.Same(p, p) || x.Same(p, "") {
				t.Errorf("Same(%.80q): it has no node", p)
			}
		}
		if nodes, bytes := x.Used(); nodes != 0 || bytes != 0 || x.Clone() != nil {
			t.Errorf("Used() = %d, %d; Clone() = %v", nodes, bytes, x.Clone())
		}
	}
}

// texts are paths that calls by chance are of: mostly few and short ones, so
// that they meet.
func texts() []string {
	l := []string{"", "/", ".", "a//b", "d/..", "a\x00", of(61), longPath(301)}
	for _, a := range []string{"a", "b", "c"} {
		for range 3 {
			l = append(l, a)
		}
		for _, b := range []string{"a", "b", "c"} {
			l = append(l, a+"/"+b, a+"/"+b)
			for _, c := range []string{"a", "b"} {
				l = append(l, a+"/"+b+"/"+c)
			}
		}
	}
	return l
}

// chance is a call by chance.
func chance(r *rand.Rand, l []string) call {
	names := []string{"Mkdir", "Mkdir", "Create", "Create", "Sym", "Link", "Link", "Write", "Set", "Remove", "Clear", "Rename", "Rename", "Rename"}
	c := call{name: names[r.Intn(len(names))], p: l[r.Intn(len(l))], q: l[r.Intn(len(l))]}
	c.meta.Mode = int64(r.Intn(9))
	c.data = strings.Repeat(string(rune('a'+r.Intn(26))), r.Intn(5))
	switch r.Intn(30) {
	case 0:
		c.meta = notMetas()[r.Intn(len(notMetas()))]
	case 1:
		c.data = of(4094 + r.Intn(6))
	}
	return c
}

// TestByChance calls trees by many calls, and looks at them whole behind each.
func TestByChance(t *testing.T) { // P13.1, P13.2, P13.3, P13.4, P13.5, P13.6
	l := texts()
	r := rand.New(rand.NewSource(13))
	seen := map[string]int{}
	for range 300 {
		b := start(t, r.Intn(12), r.Intn(25))
		if r.Intn(3) == 0 {
			b = start(t, 40, 9000)
		}
		for range 120 {
			c := chance(r, l)
			seen[fmt.Sprint(c.name, " ", b.call(c))]++
			if r.Intn(60) == 0 {
				b.cloned(r, l)
			}
		}
	}
	for _, want := range []string{
		"Mkdir 0", "Mkdir 6", "Mkdir 7", "Mkdir 8", "Mkdir 10", "Mkdir 12", "Mkdir 14", "Create 0", "Create 10", "Create 14", "Sym 0", "Sym 3", "Sym 10", "Sym 14",
		"Link 0", "Link 6", "Link 7", "Link 8", "Link 11", "Link 12", "Write 0", "Write 10", "Write 11", "Write 13", "Write 14", "Set 0", "Set 10",
		"Remove 0", "Remove 1", "Remove 6", "Remove 12", "Remove 18", "Clear 0", "Clear 1", "Clear 6", "Rename 0", "Rename 1", "Rename 6", "Rename 7", "Rename 8", "Rename 12", "Rename 13",
	} {
		name, number, _ := strings.Cut(want, " ")
		if key := name + " error " + number; seen[key] == 0 {
			t.Errorf("no call answered %q", key)
		}
	}
}

// cloned looks at a clone, and that neither it nor the tree that it is of goes
// on by what is done to the other one.
func (b *both) cloned(r *rand.Rand, l []string) {
	b.t.Helper()
	other := &both{t: b.t, tree: b.tree.Clone(), want: b.want.clone()}
	other.look("Clone")
	for range 12 {
		other.call(chance(r, l))
		b.look("what its clone did")
		b.call(chance(r, l))
		other.look("what it did")
	}
}

func TestClone(t *testing.T) { // P13.1, P13.6
	b := grown(t)
	other := &both{t: t, tree: b.tree.Clone(), want: b.want.clone()}
	other.look("Clone")
	other.answers(call{name: "Write", p: "g", data: "else"}, api.OK)
	other.answers(call{name: "Set", p: "", meta: some}, api.OK)
	other.answers(call{name: "Set", p: "d", meta: most}, api.OK)
	other.answers(call{name: "Clear", p: "d"}, api.OK)
	b.look("Clone")
	b.answers(call{name: "Remove", p: "g"}, api.OK)
	b.answers(call{name: "Mkdir", p: "d/e/x"}, api.OK)
	other.look("Clone")
	if i, _ := other.tree.Get("g"); string(i.Data) != "else" || i.Links != 1 {
		t.Errorf("a clone's Get(g) = %v", i)
	}
	// The room is the same, too.
	full := start(t, 1, 2)
	full.answers(call{name: "Create", p: "a", data: "b"}, api.OK)
	full.tree = full.tree.Clone()
	full.answers(call{name: "Mkdir", p: "b"}, api.ErrFull)
	full.answers(call{name: "Write", p: "a", data: "bcd"}, api.ErrFull)
	full.answers(call{name: "Write", p: "a", data: "bc"}, api.OK)
	// A clone that nothing but its clone is of.
	third := other.tree.Clone().Clone()
	if nodes, bytes := third.Used(); nodes != 4 || bytes != 6 {
		t.Errorf("Used() of a clone's clone = %d, %d", nodes, bytes)
	}
}

// TestUsed counts all that is reached from the root.
func TestUsed(t *testing.T) { // P13.5
	l := texts()
	r := rand.New(rand.NewSource(5))
	for range 50 {
		x := node.New(20, 60)
		for range 200 {
			chance(r, l).do(x)
		}
		nodes, bytes := x.Used()
		gotNodes, gotBytes := reached(t, x)
		if nodes != gotNodes || bytes != gotBytes || nodes > 20 || bytes > 60 {
			t.Errorf("Used() = %d, %d; what is reached has %d, %d", nodes, bytes, gotNodes, gotBytes)
		}
	}
}

// reached goes through all names, and counts the nodes that are not one with
// one that was met.
func reached(t *testing.T, x *node.Tree) (int, int) {
	t.Helper()
	var met []string
	nodes, size := 0, 0
	for waits := []string{""}; len(waits) > 0; waits = waits[1:] {
		names, e := x.List(waits[0])
		if e != api.OK && e != api.ErrNotDir {
			t.Fatalf("List(%q) = %d", waits[0], e)
		}
		for _, name := range names {
			p := ppath.Join(waits[0], name)
			waits = append(waits, p)
			if !slices.ContainsFunc(met, func(q string) bool { return x.Same(p, q) }) {
				i, _ := x.Get(p)
				nodes, size = nodes+1, size+len(i.Data)
			}
			met = append(met, p)
		}
	}
	return nodes, size
}

func TestNothingIsShared(t *testing.T) { // R3, R4
	x := node.New(9, 99)
	data := []byte("abc")
	x.Create("f", none, data)
	x.Mkdir("d", none)
	data[0] = 'x'
	i, _ := x.Get("f")
	if string(i.Data) != "abc" || string(data) != "xbc" {
		t.Errorf("Create keeps the bytes that it was handed: %q, %q", i.Data, data)
	}
	clear(i.Data)
	if i, _ := x.Get("f"); string(i.Data) != "abc" {
		t.Errorf("Get gives the tree's own bytes away: %q", i.Data)
	}
	x.Write("f", data)
	clear(data)
	other := x.Clone()
	i, _ = x.Get("f")
	clear(i.Data)
	for _, y := range []*node.Tree{x, other} {
		if i, _ := y.Get("f"); string(i.Data) != "xbc" {
			t.Errorf("Write keeps the bytes that it was handed: %q", i.Data)
		}
	}
	l, _ := x.List("")
	l[0] = "else"
	if l, _ := x.List(""); !slices.Equal(l, []string{"d", "f"}) {
		t.Errorf("List gives the tree's own names away: %q", l)
	}
}

// TestDeepTrees puts each Dir into a new one: they stand far deeper than any
// path goes.
func TestDeepTrees(t *testing.T) { // R1, P13.4, P13.5, P13.6
	const levels = 60000
	x := node.New(levels+10, 9)
	x.Mkdir("a", none)
	x.Create("a/f", none, []byte("x"))
	x.Link("f", "a/f")
	for range levels {
		for _, c := range []call{{name: "Mkdir", p: "b"}, {name: "Rename", p: "a", q: "b/a"}, {name: "Rename", p: "b", q: "a"}} {
			if e := c.do(x); e != api.OK {
				t.Fatalf("%v = %d", c, e)
			}
		}
	}
	other := x.Clone()
	if e := x.Clear("a"); e != api.OK {
		t.Errorf("Clear(a) = %d", e)
	}
	for y, want := range map[*node.Tree][2]int{x: {1, 1}, other: {levels + 2, 2}} {
		nodes, bytes := y.Used()
		i, e := y.Get("f")
		if nodes != want[0] || bytes != 1 || e != api.OK || i.Links != want[1] {
			t.Errorf("Used() = %d, %d; Get(f) = %v, %d, not %v", nodes, bytes, i, e, want)
		}
	}
}
