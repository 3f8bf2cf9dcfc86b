package head_test

import (
	"archive/tar"
	"bytes"
	"fmt"
	"math"
	"strings"
	"testing"

	"thwart/api"
	"thwart/head"
)

const types = "0125xg"

// of is a text of n signs.
func of(n int) string {
	return strings.Repeat("n", n)
}

// plain is a header in which nothing is empty.
func plain() head.Header {
	return head.Header{
		Prefix: "top/under",
		Name:   "name",
		Meta:   api.Meta{Mode: 0o644, Uid: 1000, Gid: 100, Mtime: 1234567890},
		Size:   4096,
		Type:   '1',
		Link:   "another/one",
	}
}

// numberWanted lays a number by its layer's words.
func numberWanted(n int64, width int) string {
	if n >= 0 && n < 1<<(3*(width-1)) {
		return fmt.Sprintf("%0*o\x00", width-1, n)
	}
	b := make([]byte, width)
	for i := range b {
		b[width-1-i] = byte(n >> min(8*i, 63))
	}
	b[0] = 0x80
	if n < 0 {
		b[0] = 0xFF
	}
	return string(b)
}

// textWanted lays a text.
func textWanted(s string, width int) string {
	return s + strings.Repeat("\x00", width-len(s))
}

// summed puts a block's sum in its place.
func summed(b []byte) []byte {
	copy(b[148:156], "        ")
	sum := 0
	for _, c := range b {
		sum += int(c)
	}
	copy(b[148:156], fmt.Sprintf("%06o\x00 ", sum))
	return b
}

// laidWanted lays a header by the chapter's words: one field behind the other.
func laidWanted(h head.Header) []byte {
	s := textWanted(h.Name, 100) +
		numberWanted(h.Meta.Mode, 8) + numberWanted(h.Meta.Uid, 8) + numberWanted(h.Meta.Gid, 8) +
		numberWanted(h.Size, 12) + numberWanted(h.Meta.Mtime, 12) +
		"        " + string([]byte{h.Type}) + textWanted(h.Link, 100) +
		"ustar\x0000" + textWanted("", 32) + textWanted("", 32) + "0000000\x00" + "0000000\x00" +
		textWanted(h.Prefix, 155) + textWanted("", 12)
	return summed([]byte(s))
}

// with is a block with other bytes at some places, and the sum of these.
func with(b []byte, at int, field string) []byte {
	b = bytes.Clone(b)
	copy(b[at:], field)
	return summed(b)
}

// mayBe are headers that may be laid: each field with all its edges.
func mayBe() []head.Header {
	var l []head.Header
	add := func(turn func(*head.Header)) {
		for _, h := range []head.Header{plain(), {Type: '0'}} {
			turn(&h)
			l = append(l, h)
		}
	}
	for _, c := range types {
		add(func(h *head.Header) { h.Type = byte(c) })
	}
	for _, s := range []string{"", "a", "/", "a/b", "../x/", " ", "\xff\x01\n", "\u00e4", of(99), of(100), strings.Repeat("\xff", 100)} {
		add(func(h *head.Header) { h.Name = s })
		add(func(h *head.Header) { h.Link = s })
		add(func(h *head.Header) { h.Prefix = s })
	}
	for _, n := range []int{101, 154, 155} {
		add(func(h *head.Header) { h.Prefix = of(n) })
	}
	for _, n := range []int64{0, 1, 7, 8, 4095, 4096, 1<<21 - 1, 1 << 21, 1<<33 - 1, 1 << 33, 1<<40 - 1, 1<<56 - 1} {
		add(func(h *head.Header) { h.Meta.Mode = n })
		add(func(h *head.Header) { h.Meta.Uid = n })
		add(func(h *head.Header) { h.Meta.Gid = n })
		add(func(h *head.Header) { h.Size = n })
		add(func(h *head.Header) { h.Meta.Mtime = n })
		add(func(h *head.Header) { h.Meta.Mtime = -n })
	}
	add(func(h *head.Header) { h.Size = math.MaxInt64 })
	add(func(h *head.Header) { h.Meta.Mtime = math.MaxInt64 })
	add(func(h *head.Header) { h.Meta.Mtime = math.MinInt64 })
	return l
}

func TestIsType(t *testing.T) { // P5.1
	for c := range 256 {
		if got, want := head.IsType(byte(c)), strings.IndexByte(types, byte(c)) >= 0; got != want {
			t.Errorf("IsType(%d) = %t", c, got)
		}
	}
}

func TestPath(t *testing.T) { // P5.1
	for _, c := range []struct{ prefix, name, want string }{
		{"", "", ""}, {"", "a", "a"}, {"a", "b", "a/b"}, {"a/b", "c/d", "a/b/c/d"},
		{"a", "", "a/"}, {"/", "b", "//b"}, {"", "/b", "/b"}, {of(155), of(100), of(155) + "/" + of(100)},
		{of(300), "\x00", of(300) + "/\x00"},
	} {
		h := plain()
		h.Prefix, h.Name = c.prefix, c.name
		if got := head.Path(h); got != c.want {
			t.Errorf("Path of %q and %q = %q, not %q", c.prefix, c.name, got, c.want)
		}
	}
	if got := head.Path(head.Header{}); got != "" {
		t.Errorf("Path of nothing = %q", got)
	}
}

func TestLay(t *testing.T) { // P5.1
	for _, h := range mayBe() {
		if e := head.May(h); e != api.OK {
			t.Errorf("May(%+v) = %d", h, e)
		}
		b, e := head.Lay(h)
		if want := laidWanted(h); !bytes.Equal(b, want) || e != api.OK {
			t.Errorf("Lay(%+v) = %q, %d, not %q", h, b, e, want)
		}
	}
}

// TestLaidPlaces holds each field of a block against its bytes as they are
// written in full.
func TestLaidPlaces(t *testing.T) { // P5.1
	h := plain()
	h.Meta.Uid, h.Meta.Mtime = 1<<40-1, -2
	b, e := head.Lay(h)
	if len(b) != 512 || e != api.OK {
		t.Fatalf("Lay(%+v): %d bytes, %d", h, len(b), e)
	}
	for _, f := range []struct {
		from, to int
		want     string
	}{
		{0, 5, "name\x00"}, {100, 108, "0000644\x00"}, {108, 116, "\x80\x00\x00\xff\xff\xff\xff\xff"},
		{116, 124, "0000144\x00"}, {124, 136, "00000010000\x00"},
		{136, 148, "\xff\xff\xff\xff\xff\xff\xff\xff\xff\xff\xff\xfe"}, {154, 156, "\x00 "}, {156, 157, "1"},
		{157, 169, "another/one\x00"}, {257, 265, "ustar\x0000"}, {265, 297, textWanted("", 32)},
		{297, 329, textWanted("", 32)}, {329, 337, "0000000\x00"}, {337, 345, "0000000\x00"},
		{345, 355, "top/under\x00"}, {500, 512, textWanted("", 12)},
	} {
		if got := string(b[f.from:f.to]); got != f.want {
			t.Errorf("from %d to %d stands %q, not %q", f.from, f.to, got, f.want)
		}
	}
	if b, e := head.Lay(head.Header{Name: "a", Type: '5', Meta: api.Meta{Mode: 7}}); len(b) != 512 || b[156] != 53 || e != api.OK {
		t.Errorf("Lay of a directory: %q, %d", b, e)
	}
}

// TestLaidForOthers reads blocks by the library's archives.
func TestLaidForOthers(t *testing.T) { // P5.1
	for _, c := range "0125" {
		h := plain()
		h.Type, h.Size = byte(c), 0
		b, _ := head.Lay(h)
		got, err := tar.NewReader(bytes.NewReader(append(b, make([]byte, 1024)...))).Next()
		if err != nil {
			t.Errorf("Lay(%+v) is no header: %v", h, err)
			continue
		}
		if got.Name != "top/under/name" || got.Linkname != h.Link || got.Typeflag != h.Type || got.Mode != h.Meta.Mode ||
			got.Uid != 1000 || got.Gid != 100 || got.ModTime.Unix() != h.Meta.Mtime || got.Uname+got.Gname != "" {
			t.Errorf("Lay(%+v) is read as %+v", h, got)
		}
	}
}

// fault makes a header one that may not be laid.
type fault struct {
	name string
	turn func(*head.Header)
	e    api.Errno
}

// faults stand in the order in which they are told of.
func faults() []fault {
	return []fault{
		{"no type", func(h *head.Header) { h.Type = '3' }, api.ErrKind},
		{"a 0 in the prefix", func(h *head.Header) { h.Prefix = "a\x00" }, api.ErrForm},
		{"a long prefix", func(h *head.Header) { h.Prefix = of(156) }, api.ErrBig},
		{"a 0 in the name", func(h *head.Header) { h.Name = "\x00a" }, api.ErrForm},
		{"a long name", func(h *head.Header) { h.Name = of(101) }, api.ErrBig},
		{"a 0 in the link", func(h *head.Header) { h.Link = "a\x00b" }, api.ErrForm},
		{"a long link", func(h *head.Header) { h.Link = of(101) }, api.ErrBig},
		{"a great mode", func(h *head.Header) { h.Meta.Mode = 1 << 56 }, api.ErrBig},
		{"a great uid", func(h *head.Header) { h.Meta.Uid = 1 << 56 }, api.ErrBig},
		{"a great gid", func(h *head.Header) { h.Meta.Gid = 1 << 56 }, api.ErrBig},
		{"a mode below 0", func(h *head.Header) { h.Meta.Mode = -1 }, api.ErrBig},
		{"a uid below 0", func(h *head.Header) { h.Meta.Uid = -1 }, api.ErrBig},
		{"a gid below 0", func(h *head.Header) { h.Meta.Gid = -1 }, api.ErrBig},
		{"a size below 0", func(h *head.Header) { h.Size = -1 }, api.ErrBig},
		{"the least mode", func(h *head.Header) { h.Meta.Mode = math.MinInt64 }, api.ErrBig},
		{"the least uid", func(h *head.Header) { h.Meta.Uid = math.MinInt64 }, api.ErrBig},
		{"the least gid", func(h *head.Header) { h.Meta.Gid = math.MinInt64 }, api.ErrBig},
		{"the least size", func(h *head.Header) { h.Size = math.MinInt64 }, api.ErrBig},
	}
}

// refused looks whether a header is refused by that error.
func refused(t *testing.T, what string, h head.Header, want api.Errno) {
	t.Helper()
	if e := head.May(h); e != want {
		t.Errorf("May of one with %s = %d, not %d", what, e, want)
	}
	if b, e := head.Lay(h); b != nil || e != want {
		t.Errorf("Lay of one with %s = %q, %d, not %d", what, b, e, want)
	}
}

// TestLayFaults lays headers with one fault, and with each two: the one named
// first is told.
func TestLayFaults(t *testing.T) { // P5.1
	for i, f := range faults() {
		for _, h := range []head.Header{plain(), {Type: '0'}} {
			f.turn(&h)
			refused(t, f.name, h, f.e)
		}
		for _, g := range faults()[i+1:] {
			h := plain()
			g.turn(&h)
			f.turn(&h)
			refused(t, g.name+" and "+f.name, h, f.e)
		}
	}
}

func TestLayOfNoType(t *testing.T) { // P5.1: a byte 0 is none, though it is read as one
	for c := range 256 {
		if strings.IndexByte(types, byte(c)) >= 0 {
			continue
		}
		h := plain()
		h.Type = byte(c)
		refused(t, fmt.Sprintf("the type %d", c), h, api.ErrKind)
	}
	refused(t, "nothing", head.Header{}, api.ErrKind)
}

func TestParse(t *testing.T) { // P5.2
	for _, h := range mayBe() {
		if got, e := head.Parse(laidWanted(h)); got != h || e != api.OK {
			t.Errorf("Parse of %+v = %+v, %d", h, got, e)
		}
	}
}

// TestParseFields reads fields that are laid in other ways.
func TestParseFields(t *testing.T) { // P5.2
	for _, c := range []struct {
		at    int
		field string
		turn  func(*head.Header)
	}{
		{100, "  644 \x00 ", func(*head.Header) {}},
		{100, "77777777", func(h *head.Header) { h.Meta.Mode = 1<<24 - 1 }},
		{108, "\x80\x00\x00\x00\x00\x00\x00\x05", func(h *head.Header) { h.Meta.Uid = 5 }},
		{116, "0       ", func(h *head.Header) { h.Meta.Gid = 0 }},
		{124, "777777777777", func(h *head.Header) { h.Size = 1<<36 - 1 }},
		{124, "          7\x00", func(h *head.Header) { h.Size = 7 }},
		{136, "\xff\xff\xff\xff\xff\xff\xff\xff\xff\xff\xff\x00", func(h *head.Header) { h.Meta.Mtime = -256 }},
		{136, "\x80\x00\x00\x00\x00\x00\x00\x00\x00\x00\x00\x01", func(h *head.Header) { h.Meta.Mtime = 1 }},
		{0, of(100), func(h *head.Header) { h.Name = of(100) }},
		{157, of(100), func(h *head.Header) { h.Link = of(100) }},
		{345, of(155), func(h *head.Header) { h.Prefix = of(155) }},
		{0, textWanted("", 100), func(h *head.Header) { h.Name = "" }},
		{157, textWanted("", 100), func(h *head.Header) { h.Link = "" }},
		{345, textWanted("", 155), func(h *head.Header) { h.Prefix = "" }},
	} {
		want := plain()
		c.turn(&want)
		if got, e := head.Parse(with(laidWanted(plain()), c.at, c.field)); got != want || e != api.OK {
			t.Errorf("Parse with %q at %d = %+v, %d", c.field, c.at, got, e)
		}
	}
}

func TestParseTypes(t *testing.T) { // P5.2
	for c := range 256 {
		h, e := head.Parse(with(laidWanted(plain()), 156, string([]byte{byte(c)})))
		want, wantErr := plain(), api.OK
		want.Type = byte(c)
		switch {
		case c == 0:
			want.Type = '0'
		case strings.IndexByte(types, byte(c)) < 0:
			want, wantErr = head.Header{}, api.ErrKind
		}
		if h != want || e != wantErr {
			t.Errorf("Parse of the type %d = %+v, %d", c, h, e)
		}
	}
}

// TestOtherBytesPlayNoPart turns each byte of no field that is read.
func TestOtherBytesPlayNoPart(t *testing.T) { // P5.2
	for at := 265; at < 512; at++ {
		if at >= 345 && at < 500 {
			continue
		}
		for _, field := range []string{"\xff", "x", " ", "0"} {
			if h, e := head.Parse(with(laidWanted(plain()), at, field)); h != plain() || e != api.OK {
				t.Errorf("Parse with %q at %d = %+v, %d", field, at, h, e)
			}
		}
	}
	b := laidWanted(plain())
	copy(b[265:345], strings.Repeat("\xff", 80))
	copy(b[500:], strings.Repeat("\xff", 12))
	if h, e := head.Parse(summed(b)); h != plain() || e != api.OK {
		t.Errorf("Parse = %+v, %d", h, e)
	}
}

// TestParseOfOthers reads what the library's archives lay.
func TestParseOfOthers(t *testing.T) { // P5.2
	var b bytes.Buffer
	w := tar.NewWriter(&b)
	err := w.WriteHeader(&tar.Header{
		Format: tar.FormatUSTAR, Typeflag: tar.TypeSymlink, Name: of(60) + "/" + of(60), Linkname: "to",
		Mode: 0o755, Uid: 7, Gid: 8, Uname: "user", Gname: "group",
	})
	if err != nil {
		t.Fatal(err)
	}
	h, e := head.Parse(b.Bytes()[:512])
	want := head.Header{Prefix: of(60), Name: of(60), Link: "to", Type: '2', Meta: api.Meta{Mode: 0o755, Uid: 7, Gid: 8}}
	if h != want || e != api.OK {
		t.Errorf("Parse = %+v, %d, not %+v", h, e, want)
	}
}

// turned is a block's fault: a field that is another one.
type turned struct {
	at    int
	field string
	e     api.Errno
}

// wrong stand in the order in which they are told of.
func wrong() []turned {
	below := strings.Repeat("\xff", 12)
	return []turned{
		{257, "ustar  \x00", api.ErrForm},
		{345, "a\x00b", api.ErrForm},
		{0, "a\x00b", api.ErrForm},
		{157, "a\x00b", api.ErrForm},
		{100, "000064x\x00", api.ErrForm},
		{108, "0000008\x00", api.ErrForm},
		{116, "        ", api.ErrForm},
		{124, "\x80\x00\x00\x00\x80\x00\x00\x00\x00\x00\x00\x00", api.ErrBig},
		{124, "0000 0000000", api.ErrForm},
		{136, "\xff\xff\xff\xff\x7f\xff\xff\xff\xff\xff\xff\xff", api.ErrBig},
		{136, "\x00\x00\x00\x00\x00\x00\x00\x00\x00\x00\x00\x00", api.ErrForm},
		{156, "3", api.ErrKind},
		{100, below[:8], api.ErrBig},
		{108, below[:8], api.ErrBig},
		{116, below[:8], api.ErrBig},
		{124, below, api.ErrBig},
	}
}

// notRead looks whether a block is refused by that error.
func notRead(t *testing.T, what string, b []byte, want api.Errno) {
	t.Helper()
	if h, e := head.Parse(b); h != (head.Header{}) || e != want {
		t.Errorf("Parse with %s = %+v, %d, not %d", what, h, e, want)
	}
}

// TestParseFaults reads blocks with one fault, and with each two: the one named
// first is told.
func TestParseFaults(t *testing.T) { // P5.2
	for i, f := range wrong() {
		b := with(laidWanted(plain()), f.at, f.field)
		notRead(t, fmt.Sprintf("%q at %d", f.field, f.at), b, f.e)
		for _, g := range wrong()[i+1:] {
			if g.at == f.at {
				continue
			}
			notRead(t, fmt.Sprintf("%q at %d, %q at %d", f.field, f.at, g.field, g.at), with(b, g.at, g.field), f.e)
		}
	}
}

// TestParseWord turns each byte of `ustar` and what is behind it.
func TestParseWord(t *testing.T) { // P5.2
	for at := 257; at < 265; at++ {
		for c := range 256 {
			b := laidWanted(plain())
			if b[at] == byte(c) {
				continue
			}
			notRead(t, fmt.Sprintf("%d at %d", c, at), with(b, at, string([]byte{byte(c)})), api.ErrForm)
		}
	}
}

// TestParseBehindTexts puts a byte behind the first 0 of each text, up to the
// last place of its field.
func TestParseBehindTexts(t *testing.T) { // P5.2
	for _, f := range []struct{ from, width int }{{0, 100}, {157, 100}, {345, 155}} {
		for at := f.from + 20; at < f.from+f.width; at++ {
			notRead(t, fmt.Sprintf("a byte at %d", at), with(laidWanted(plain()), at, "x"), api.ErrForm)
		}
	}
}

func TestParseSum(t *testing.T) { // P5.2: the sum is looked at ahead of all fields
	for _, c := range []struct {
		field string
		e     api.Errno
	}{
		{"000000\x00 ", api.ErrSum}, {"7777777\x00", api.ErrForm}, {"        ", api.ErrForm},
		{"x00000\x00 ", api.ErrForm}, {"\xff\xff\xff\xff\xff\xff\xff\xff", api.ErrForm},
	} {
		b := laidWanted(plain())
		copy(b[148:], c.field)
		notRead(t, fmt.Sprintf("the sum %q", c.field), b, c.e)
		for _, f := range wrong() {
			copy(b[f.at:], f.field)
		}
		notRead(t, fmt.Sprintf("the sum %q and all other faults", c.field), b, c.e)
	}
	for at := range 512 {
		if at >= 148 && at < 156 {
			continue
		}
		b := laidWanted(plain())
		b[at] ^= 0x41
		notRead(t, fmt.Sprintf("another byte at %d", at), b, api.ErrSum)
	}
	notRead(t, "noughts", make([]byte, 512), api.ErrForm)
}

func TestParseOfNoBlock(t *testing.T) { // P5.2
	laid := laidWanted(plain())
	notRead(t, "nothing", nil, api.ErrArg)
	for n := range 512 {
		notRead(t, "a part", laid[:n], api.ErrArg)
	}
	notRead(t, "a byte more", append(bytes.Clone(laid), 0), api.ErrArg)
	notRead(t, "a block more", append(bytes.Clone(laid), laid...), api.ErrArg)
	notRead(t, "bytes alone", bytes.Repeat([]byte{0xFF}, 600), api.ErrArg)
}

func TestSame(t *testing.T) { // P5.2
	turns := []func(*head.Header){
		func(h *head.Header) {},
		func(h *head.Header) { h.Prefix = "a" },
		func(h *head.Header) { h.Name = "a" },
		func(h *head.Header) { h.Prefix, h.Name = "top", "under/name" },
		func(h *head.Header) { h.Link = "" },
		func(h *head.Header) { h.Meta.Mode = 0 },
		func(h *head.Header) { h.Meta.Uid = -1 },
		func(h *head.Header) { h.Meta.Gid = 1 << 60 },
		func(h *head.Header) { h.Meta.Mtime = 0 },
		func(h *head.Header) { h.Size = 0 },
		func(h *head.Header) { h.Type = 0 },
		func(h *head.Header) { h.Type = '0' },
		func(h *head.Header) { *h = head.Header{} },
	}
	for i, f := range turns {
		for j, g := range turns {
			a, b := plain(), plain()
			f(&a)
			g(&b)
			if got := head.Same(a, b); got != (i == j) {
				t.Errorf("Same(%+v, %+v) = %t", a, b, got)
			}
		}
	}
	a, b := plain(), plain()
	a.Name, b.Name = strings.Clone("name"), strings.Clone("name")
	if !head.Same(a, b) {
		t.Error("two headers are not the same, for their texts stand at two places")
	}
}

func TestLaidIsRead(t *testing.T) { // P5.3
	for _, h := range mayBe() {
		b, e := head.Lay(h)
		if e != api.OK {
			t.Errorf("Lay(%+v): %d", h, e)
			continue
		}
		got, e := head.Parse(b)
		if !head.Same(got, h) || e != api.OK {
			t.Errorf("Parse(Lay(%+v)) = %+v, %d", h, got, e)
		}
		if again, e := head.Lay(got); !bytes.Equal(again, b) || e != api.OK {
			t.Errorf("Lay(Parse(Lay(%+v))) = %q, %d", h, again, e)
		}
	}
}

func TestNothingIsWrittenOrShared(t *testing.T) { // R3, R4
	b := laidWanted(plain())
	kept := bytes.Clone(b)
	h, e := head.Parse(b)
	if !bytes.Equal(b, kept) || e != api.OK {
		t.Errorf("Parse turned its block, or %d", e)
	}
	clear(b)
	if h != plain() {
		t.Errorf("a header hangs on what is written into its block afterwards: %+v", h)
	}
	one, _ := head.Lay(h)
	another, _ := head.Lay(h)
	clear(one)
	if third, _ := head.Lay(h); !bytes.Equal(another, kept) || !bytes.Equal(third, kept) {
		t.Error("two answers of Lay share their bytes")
	}
}

// FuzzParse reads any block: what is read may be laid, and is read as the same.
func FuzzParse(f *testing.F) { // R1, P5.2, P5.3
	f.Add(laidWanted(plain()), true)
	f.Add(laidWanted(head.Header{Type: 'g'}), false)
	f.Add(make([]byte, 512), false)
	f.Add([]byte{}, false)
	f.Fuzz(func(t *testing.T, b []byte, sum bool) {
		if sum && len(b) == 512 {
			b = summed(bytes.Clone(b))
		}
		h, e := head.Parse(b)
		if e != api.OK {
			if h != (head.Header{}) {
				t.Errorf("%+v beside the error %d", h, e)
			}
			return
		}
		laid, e := head.Lay(h)
		if e != api.OK || head.May(h) != api.OK {
			t.Errorf("%+v is read, but not laid: %d", h, e)
		}
		if again, e := head.Parse(laid); again != h || e != api.OK {
			t.Errorf("%+v is read as %+v, %d", h, again, e)
		}
	})
}
