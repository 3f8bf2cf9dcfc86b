package frame_test

import (
	"bytes"
	"encoding/binary"
	"encoding/hex"
	"hash/crc32"
	"math"
	"math/rand"
	"reflect"
	"slices"
	"strings"
	"testing"

	"thwart/api"
	"thwart/dial"
	"thwart/digest"
	"thwart/frame"
)

const (
	most     = math.MaxUint64
	mostHalf = math.MaxUint32
)

// kinds are all kinds.
func kinds() []int {
	return []int{frame.Hello, frame.Resume, frame.Data, frame.Sack, frame.Fin, frame.Finack, frame.Reset}
}

// noKinds are numbers that are none, such that have a kind as their last byte, too.
func noKinds() []int {
	return []int{0, 8, 9, -1, -7, 10, 127, 128, 255, 256, 257, 259, 263, -253, 1<<16 + 3, 1<<32 + 1, math.MaxInt, math.MinInt, math.MinInt + 1}
}

func tokenOf(c byte) api.Token {
	var t api.Token
	for i := range t {
		t[i] = c + byte(i)
	}
	return t
}

func bytesOf(n int) []byte {
	b := make([]byte, n)
	for i := range b {
		b[i] = byte(7*i + 3)
	}
	return b
}

// full has something in all fields, that may stand there.
func full(kind int) frame.Frame {
	return frame.Frame{
		Kind:   kind,
		Token:  tokenOf(0xA0),
		Epoch:  dial.Epoch{S: 0x01020304, R: 0x05060708},
		Off:    0x1112131415161718,
		Total:  0x2122232425262728,
		Sum:    digest.Of([]byte("abc")),
		Data:   []byte("some bytes"),
		Ranges: []frame.Range{{From: 0x3132333435363738, To: 0x4142434445464748}, {From: 0x5152535455565758, To: most}},
		Code:   42,
	}
}

// samples are frames that may be laid, with the fields of their kind alone; their
// fields stand at all edges.
func samples() []frame.Frame {
	var l []frame.Frame
	numbers := []uint64{0, 1, 255, 256, 1 << 40, 1<<62 + 1, 1 << 63, most - 1, most}
	sums := []digest.Sum{{}, digest.Of(nil), digest.Of([]byte("a"))}
	for _, n := range numbers {
		l = append(l, frame.Frame{Kind: frame.Resume, Off: n}, frame.Frame{Kind: frame.Finack, Total: n}, frame.Frame{Kind: frame.Sack, Off: n})
		for _, s := range sums {
			l = append(l, frame.Frame{Kind: frame.Hello, Total: n, Sum: s}, frame.Frame{Kind: frame.Fin, Total: n, Sum: s})
		}
		for _, count := range []int{1, 2, 3, 4, 16, 255, 256} {
			l = append(l, frame.Frame{Kind: frame.Data, Off: n, Data: bytesOf(count)})
		}
	}
	for _, r := range [][]frame.Range{
		{{1, 2}},
		{{1, most}},
		{{most - 1, most}},
		{{256, 512}, {513, 514}},
		{{1, 2}, {3, 4}, {5, 6}},
		{{1, 2}, {3, 4}, {5, 6}, {7, 8}},
		{{256, 512}, {768, 1024}, {1280, 1536}, {1792, 1800}},
		{{most - 7, most - 6}, {most - 5, most - 4}, {most - 3, most - 2}, {most - 1, most}},
	} {
		l = append(l, frame.Frame{Kind: frame.Sack, Ranges: r}, frame.Frame{Kind: frame.Sack, Off: r[0].From - 1, Ranges: r})
	}
	for code := 1; code <= 99; code++ {
		l = append(l, frame.Frame{Kind: frame.Reset, Code: code})
	}
	epochs := []dial.Epoch{{}, {S: 1}, {R: 1}, {S: 1, R: 2}, {S: 1 << 24, R: 1 << 16}, {S: mostHalf}, {R: mostHalf}, {S: mostHalf, R: mostHalf}, {S: 0x01020304, R: 0x05060708}}
	for i := range l {
		l[i].Epoch = epochs[i%len(epochs)]
		l[i].Token = tokenOf(byte(11 * i))
	}
	return l
}

// chanced is a frame by chance; many of them may be laid, but not all.
func chanced(r *rand.Rand) frame.Frame {
	number := func() uint64 { return r.Uint64() >> r.Intn(64) }
	f := frame.Frame{
		Kind:  r.Intn(9),
		Epoch: dial.Epoch{S: r.Uint32() >> r.Intn(32), R: r.Uint32() >> r.Intn(32)},
		Off:   number(),
		Total: number(),
		Data:  make([]byte, r.Intn(2)*r.Intn(260)),
		Code:  r.Intn(110) - 5,
	}
	r.Read(f.Token[:])
	r.Read(f.Sum[:])
	r.Read(f.Data)
	at := f.Off
	for range r.Intn(6) {
		from := at + uint64(r.Intn(9))
		at = from + uint64(r.Intn(9))
		f.Ranges = append(f.Ranges, frame.Range{From: from, To: at})
	}
	return f
}

// seal puts the sum behind, by the library's.
func seal(b []byte) []byte {
	return binary.LittleEndian.AppendUint32(bytes.Clone(b), crc32.ChecksumIEEE(b))
}

// headWanted is what stands ahead of the fields.
func headWanted(f frame.Frame) []byte {
	mark := byte((uint64(f.Epoch.S) + uint64(f.Epoch.R)) % 4)
	b := append([]byte{'T', 'W', byte(f.Kind), mark}, f.Token[:]...)
	b = binary.BigEndian.AppendUint32(b, f.Epoch.S)
	return binary.BigEndian.AppendUint32(b, f.Epoch.R)
}

// bodyWanted is a frame without what it is sealed by, whatever its fields are.
func bodyWanted(f frame.Frame) []byte {
	b := headWanted(f)
	long := binary.BigEndian.AppendUint64
	switch f.Kind {
	case frame.Hello:
		return append(long(b, f.Total), f.Sum[:]...)
	case frame.Resume:
		return long(b, f.Off)
	case frame.Data:
		return append(long(b, f.Off), f.Data...)
	case frame.Sack:
		b = long(b, f.Off)
		for _, g := range f.Ranges {
			b = long(long(b, g.From), g.To)
		}
		return b
	case frame.Fin:
		return append(long(b, f.Total), f.Sum[:]...)
	case frame.Finack:
		return long(b, f.Total)
	case frame.Reset:
		return append(b, byte(f.Code))
	}
	return b
}

// riseWanted holds all numbers, one behind the other, against their neighbours.
func riseWanted(off uint64, l []frame.Range) bool {
	row := []uint64{off}
	for _, g := range l {
		row = append(row, g.From, g.To)
	}
	for i := range row[1:] {
		if row[i] >= row[i+1] {
			return false
		}
	}
	return true
}

// errorWanted is what Lay's is.
func errorWanted(f frame.Frame) api.Errno {
	if !slices.Contains(kinds(), f.Kind) {
		return api.ErrKind
	}
	if f.Kind == frame.Data && len(f.Data) == 0 {
		return api.ErrEnd
	}
	if f.Kind == frame.Data && len(f.Data) > 256 {
		return api.ErrBig
	}
	if f.Kind == frame.Sack && len(f.Ranges) > 4 {
		return api.ErrMany
	}
	if f.Kind == frame.Sack && !riseWanted(f.Off, f.Ranges) || f.Kind == frame.Reset && (f.Code <= 0 || f.Code >= 100) {
		return api.ErrForm
	}
	return api.OK
}

// bareWanted is its kind, token and epoch, and what its kind has.
func bareWanted(f frame.Frame) frame.Frame {
	w := frame.Frame{Kind: f.Kind, Token: f.Token, Epoch: f.Epoch}
	handFields(&w, f)
	return w
}

// handFields hands a frame's fields to another one of its kind; which these are is
// written out for each kind.
func handFields(to *frame.Frame, f frame.Frame) {
	switch f.Kind {
	case frame.Hello, frame.Fin:
		to.Total, to.Sum = f.Total, f.Sum
	case frame.Resume:
		to.Off = f.Off
	case frame.Data:
		to.Off, to.Data = f.Off, f.Data
	case frame.Sack:
		to.Off, to.Ranges = f.Off, f.Ranges
	case frame.Finack:
		to.Total = f.Total
	case frame.Reset:
		to.Code = f.Code
	}
}

// equal holds frames against each other; lists that are nil and empty ones are the
// same.
func equal(a, b frame.Frame) bool {
	if len(a.Data) == 0 && len(b.Data) == 0 {
		a.Data, b.Data = nil, nil
	}
	if len(a.Ranges) == 0 && len(b.Ranges) == 0 {
		a.Ranges, b.Ranges = nil, nil
	}
	return reflect.DeepEqual(a, b)
}

func isZero(f frame.Frame) bool {
	return reflect.ValueOf(f).IsZero()
}

// parseWanted cuts a datagram at fixed places, checks one by one.
func parseWanted(b []byte) (frame.Frame, api.Errno) {
	if len(b) < 4 {
		return frame.Frame{}, api.ErrEnd
	}
	body := b[:len(b)-4]
	if !bytes.Equal(seal(body), b) {
		return frame.Frame{}, api.ErrSum
	}
	if len(body) < 28 {
		return frame.Frame{}, api.ErrEnd
	}
	f := frame.Frame{Kind: int(body[2])}
	copy(f.Token[:], body[4:20])
	f.Epoch.S = binary.BigEndian.Uint32(body[20:])
	f.Epoch.R = binary.BigEndian.Uint32(body[24:])
	switch {
	case body[0] != 'T' || body[1] != 'W':
		return frame.Frame{}, api.ErrForm
	case body[2] == 0 || body[2] > 7:
		return frame.Frame{}, api.ErrKind
	case uint64(body[3]) != (uint64(f.Epoch.S)+uint64(f.Epoch.R))%4:
		return frame.Frame{}, api.ErrEpoch
	}
	fields := body[28:]
	size := []int{0, 40, 8, 8, 8, 40, 8, 1}[f.Kind]
	if len(fields) < size || f.Kind == frame.Data && len(fields) == size || f.Kind == frame.Sack && (len(fields)-size)%16 != 0 {
		return frame.Frame{}, api.ErrEnd
	}
	if len(fields) > size && f.Kind != frame.Data && f.Kind != frame.Sack {
		return frame.Frame{}, api.ErrForm
	}
	switch f.Kind {
	case frame.Hello, frame.Fin:
		f.Total = binary.BigEndian.Uint64(fields)
		copy(f.Sum[:], fields[8:])
	case frame.Finack:
		f.Total = binary.BigEndian.Uint64(fields)
	case frame.Reset:
		f.Code = int(fields[0])
	default:
		f.Off = binary.BigEndian.Uint64(fields)
	}
	if f.Kind == frame.Data {
		f.Data = bytes.Clone(fields[8:])
	}
	for at := 8; f.Kind == frame.Sack && at < len(fields); at += 16 {
		f.Ranges = append(f.Ranges, frame.Range{From: binary.BigEndian.Uint64(fields[at:]), To: binary.BigEndian.Uint64(fields[at+8:])})
	}
	if e := errorWanted(f); e != api.OK {
		return frame.Frame{}, e
	}
	return f, api.OK
}

// parses asks Parse about bytes, and holds its answer against the model's.
func parses(t *testing.T, b []byte) api.Errno {
	t.Helper()
	was := bytes.Clone(b)
	f, e := frame.Parse(b)
	want, wantErr := parseWanted(was)
	if !equal(f, want) || e != wantErr || e != api.OK && !isZero(f) {
		t.Errorf("Parse(%x) = %+v, %d, not %+v, %d", was, f, e, want, wantErr)
	}
	if !bytes.Equal(b, was) {
		t.Errorf("Parse turned %x to %x", was, b)
	}
	return e
}

func TestKinds(t *testing.T) { // the chapter's numbers
	if !slices.Equal(kinds(), []int{1, 2, 3, 4, 5, 6, 7}) {
		t.Errorf("the kinds are %v", kinds())
	}
}

func TestBare(t *testing.T) { // P19.1
	for _, kind := range append(kinds(), noKinds()...) {
		f := full(kind)
		bare := frame.Bare(f)
		if !equal(bare, bareWanted(f)) {
			t.Errorf("Bare(%+v) = %+v, not %+v", f, bare, bareWanted(f))
		}
		if !equal(f, full(kind)) {
			t.Errorf("Bare turned what it was handed to %+v", f)
		}
		if !equal(frame.Bare(bare), bare) {
			t.Errorf("Bare of what is bare, %+v, is %+v", bare, frame.Bare(bare))
		}
		if empty := (frame.Frame{Kind: kind}); !equal(frame.Bare(empty), empty) {
			t.Errorf("Bare(%+v) = %+v", empty, frame.Bare(empty))
		}
	}
}

// TestBareTakesAll has fields that may not be laid: Bare does not look at them.
func TestBareTakesAll(t *testing.T) { // P19.1
	for _, kind := range append(kinds(), noKinds()...) {
		f := full(kind)
		f.Data = bytesOf(1000)
		f.Ranges = []frame.Range{{9, 8}, {7, 6}, {5, 4}, {3, 2}, {1, 0}, {1, 1}}
		for _, code := range []int{0, -1, 100, 256, math.MaxInt, math.MinInt} {
			f.Code = code
			if bare := frame.Bare(f); !equal(bare, bareWanted(f)) {
				t.Errorf("Bare(%+v) = %+v", f, bare)
			}
		}
	}
}

func TestBareIsNew(t *testing.T) { // P19.1
	f := full(frame.Data)
	bare := frame.Bare(f)
	clear(f.Data)
	if !equal(bare, bareWanted(full(frame.Data))) {
		t.Error("Bare hands out the bytes that it was handed")
	}
	f = full(frame.Sack)
	bare = frame.Bare(f)
	clear(f.Ranges)
	if !equal(bare, bareWanted(full(frame.Sack))) {
		t.Error("Bare hands out the ranges that it was handed")
	}
}

func TestRise(t *testing.T) { // P19.1
	for _, c := range []struct {
		off  uint64
		l    []frame.Range
		want bool
	}{
		{0, nil, true},
		{0, []frame.Range{}, true},
		{most, nil, true},
		{0, []frame.Range{{1, 2}}, true},
		{256, []frame.Range{{512, 768}}, true},
		{256, []frame.Range{{257, 258}}, true},
		{most - 2, []frame.Range{{most - 1, most}}, true},
		// The first one is not above.
		{0, []frame.Range{{0, 1}}, false},
		{256, []frame.Range{{256, 512}}, false},
		{256, []frame.Range{{255, 512}}, false},
		{256, []frame.Range{{0, 1}}, false},
		{most, []frame.Range{{0, 1}}, false},
		{most, []frame.Range{{most, most}}, false},
		{most - 1, []frame.Range{{most, most}}, false},
		// A from is not below its to.
		{0, []frame.Range{{1, 1}}, false},
		{0, []frame.Range{{2, 1}}, false},
		{0, []frame.Range{{1, 0}}, false},
		{0, []frame.Range{{most, 0}}, false},
		{0, []frame.Range{{1 << 63, 1<<63 - 1}}, false},
		{0, []frame.Range{{1<<63 - 1, 1 << 63}}, true},
		// A further one is not above the to ahead.
		{0, []frame.Range{{1, 2}, {3, 4}}, true},
		{0, []frame.Range{{1, 2}, {2, 4}}, false},
		{0, []frame.Range{{1, 5}, {4, 6}}, false},
		{0, []frame.Range{{3, 4}, {1, 2}}, false},
		{0, []frame.Range{{1, 2}, {1, 2}}, false},
		{0, []frame.Range{{1, most}, {most, most}}, false},
		{0, []frame.Range{{1, most}, {0, 1}}, false},
		// Any number of them, and a fault at any place.
		{0, []frame.Range{{1, 2}, {3, 4}, {5, 6}, {7, 8}, {9, 10}, {11, 12}}, true},
		{0, []frame.Range{{1, 2}, {3, 4}, {5, 6}, {7, 8}, {9, 10}, {10, 12}}, false},
		{0, []frame.Range{{1, 2}, {3, 4}, {5, 6}, {7, 8}, {9, 10}, {11, 11}}, false},
		{0, []frame.Range{{1, 2}, {3, 3}, {5, 6}}, false},
	} {
		if got := frame.Rise(c.off, c.l); got != c.want || got != riseWanted(c.off, c.l) {
			t.Errorf("Rise(%d, %v) = %t", c.off, c.l, got)
		}
	}
}

func TestRiseOfAll(t *testing.T) { // P19.1
	edges := []uint64{0, 1, 2, 3, most - 1, most}
	yes, no := 0, 0
	count := 1
	for range 5 {
		count *= len(edges)
	}
	for n := range count {
		var row []uint64
		for rest := n; len(row) < 5; rest /= len(edges) {
			row = append(row, edges[rest%len(edges)])
		}
		l := []frame.Range{{row[1], row[2]}, {row[3], row[4]}}
		want := riseWanted(row[0], l)
		if frame.Rise(row[0], l) != want {
			t.Errorf("Rise(%d, %v) = %t", row[0], l, !want)
		}
		if want {
			yes++
		} else {
			no++
		}
	}
	if yes == 0 || no == 0 {
		t.Errorf("%d rise, %d do not", yes, no)
	}
}

// TestLayBytes has datagrams that are written out.
func TestLayBytes(t *testing.T) { // P19.1
	head := func(kind string) string {
		return "5457" + kind + "00" + "a0a1a2a3a4a5a6a7a8a9aaabacadaeaf" + "01020304" + "05060708"
	}
	sum := "ba7816bf8f01cfea414140de5dae2223b00361a396177a9cb410ff61f20015ad"
	for _, c := range []struct {
		kind int
		want string
	}{
		{frame.Hello, head("01") + "2122232425262728" + sum},
		{frame.Resume, head("02") + "1112131415161718"},
		{frame.Data, head("03") + "1112131415161718" + hex.EncodeToString([]byte("some bytes"))},
		{frame.Sack, head("04") + "1112131415161718" + "3132333435363738" + "4142434445464748" + "5152535455565758" + "ffffffffffffffff"},
		{frame.Fin, head("05") + "2122232425262728" + sum},
		{frame.Finack, head("06") + "2122232425262728"},
		{frame.Reset, head("07") + "2a"},
	} {
		body, err := hex.DecodeString(c.want)
		if err != nil {
			t.Fatal(err)
		}
		b, e := frame.Lay(full(c.kind))
		if e != api.OK || !bytes.Equal(b, seal(body)) {
			t.Errorf("Lay of kind %d = %x, %d, not %x", c.kind, b, e, seal(body))
		}
	}
	// A whole one, with its sum, which others tell, too.
	want := "54570601" + strings.Repeat("00", 16) + "00000001" + "00000000" + "0000000000000003" + "09cd0b81"
	b, e := frame.Lay(frame.Frame{Kind: frame.Finack, Epoch: dial.Epoch{S: 1}, Total: 3})
	if e != api.OK || hex.EncodeToString(b) != want {
		t.Errorf("Lay of a Finack = %x, %d, not %s", b, e, want)
	}
}

func TestLens(t *testing.T) { // P19.1, and the chapter's example
	for _, c := range []struct {
		f    frame.Frame
		want int
	}{
		{frame.Frame{Kind: frame.Finack}, 40}, // the chapter's example
		{frame.Frame{Kind: frame.Hello}, 72},
		{frame.Frame{Kind: frame.Fin}, 72},
		{frame.Frame{Kind: frame.Resume}, 40},
		{frame.Frame{Kind: frame.Data, Data: bytesOf(1)}, 41},
		{frame.Frame{Kind: frame.Data, Data: bytesOf(256)}, 296},
		{frame.Frame{Kind: frame.Sack}, 40},
		{frame.Frame{Kind: frame.Sack, Ranges: []frame.Range{{1, 2}, {3, 4}, {5, 6}, {7, 8}}}, 104},
		{frame.Frame{Kind: frame.Reset, Code: 1}, 33},
	} {
		if b, e := frame.Lay(c.f); len(b) != c.want || e != api.OK {
			t.Errorf("Lay of kind %d has %d bytes, %d, not %d", c.f.Kind, len(b), e, c.want)
		}
	}
}

func TestLay(t *testing.T) { // P19.1
	for _, f := range samples() {
		b, e := frame.Lay(f)
		if e != api.OK || !bytes.Equal(b, seal(bodyWanted(f))) {
			t.Errorf("Lay(%+v) = %x, %d, not %x", f, b, e, seal(bodyWanted(f)))
		}
	}
	r := rand.New(rand.NewSource(1))
	found := map[api.Errno]int{}
	for range 20000 {
		f := chanced(r)
		b, e := frame.Lay(f)
		want := errorWanted(f)
		found[want]++
		if e != want || e != api.OK && len(b) != 0 || e == api.OK && !bytes.Equal(b, seal(bodyWanted(f))) {
			t.Errorf("Lay(%+v) = %x, %d, not %d", f, b, e, want)
		}
	}
	for _, e := range []api.Errno{api.OK, api.ErrKind, api.ErrEnd, api.ErrBig, api.ErrMany, api.ErrForm} {
		if found[e] == 0 {
			t.Errorf("no frame by chance has the error %d", e)
		}
	}
}

func TestLayErrors(t *testing.T) { // P19.1
	rising := []frame.Range{{1, 2}, {3, 4}, {5, 6}, {7, 8}, {9, 10}}
	for _, c := range []struct {
		f    frame.Frame
		want api.Errno
	}{
		{frame.Frame{Kind: frame.Data}, api.ErrEnd},
		{frame.Frame{Kind: frame.Data, Data: []byte{}}, api.ErrEnd},
		{frame.Frame{Kind: frame.Data, Data: bytesOf(1)}, api.OK},
		{frame.Frame{Kind: frame.Data, Data: bytesOf(256)}, api.OK},
		{frame.Frame{Kind: frame.Data, Data: bytesOf(257)}, api.ErrBig},
		{frame.Frame{Kind: frame.Data, Data: bytesOf(512)}, api.ErrBig},
		{frame.Frame{Kind: frame.Data, Data: bytesOf(1 << 16)}, api.ErrBig},
		{frame.Frame{Kind: frame.Sack}, api.OK},
		{frame.Frame{Kind: frame.Sack, Ranges: []frame.Range{}}, api.OK},
		{frame.Frame{Kind: frame.Sack, Ranges: rising[:4]}, api.OK},
		{frame.Frame{Kind: frame.Sack, Ranges: rising}, api.ErrMany},
		{frame.Frame{Kind: frame.Sack, Off: 1, Ranges: rising}, api.ErrMany}, // nor do they rise
		{frame.Frame{Kind: frame.Sack, Ranges: make([]frame.Range, 5)}, api.ErrMany},
		{frame.Frame{Kind: frame.Sack, Ranges: make([]frame.Range, 1000)}, api.ErrMany},
		{frame.Frame{Kind: frame.Sack, Ranges: make([]frame.Range, 1)}, api.ErrForm},
		{frame.Frame{Kind: frame.Sack, Ranges: make([]frame.Range, 4)}, api.ErrForm},
		{frame.Frame{Kind: frame.Sack, Off: 1, Ranges: rising[:1]}, api.ErrForm},
		{frame.Frame{Kind: frame.Sack, Off: most, Ranges: rising[:1]}, api.ErrForm},
		{frame.Frame{Kind: frame.Sack, Ranges: []frame.Range{{1, 2}, {2, 3}}}, api.ErrForm},
		{frame.Frame{Kind: frame.Reset}, api.ErrForm},
		{frame.Frame{Kind: frame.Reset, Code: 1}, api.OK},
		{frame.Frame{Kind: frame.Reset, Code: 99}, api.OK},
		{frame.Frame{Kind: frame.Reset, Code: 100}, api.ErrForm},
		{frame.Frame{Kind: frame.Reset, Code: -1}, api.ErrForm},
		{frame.Frame{Kind: frame.Reset, Code: 255}, api.ErrForm},
		{frame.Frame{Kind: frame.Reset, Code: 256 + 42}, api.ErrForm},
		{frame.Frame{Kind: frame.Reset, Code: 1<<32 + 42}, api.ErrForm},
		{frame.Frame{Kind: frame.Reset, Code: math.MaxInt}, api.ErrForm},
		{frame.Frame{Kind: frame.Reset, Code: math.MinInt}, api.ErrForm},
		{frame.Frame{Kind: frame.Reset, Code: math.MinInt + 42}, api.ErrForm},
	} {
		if b, e := frame.Lay(c.f); e != c.want || e != api.OK && len(b) != 0 {
			t.Errorf("Lay(%+v) = %x, %d, not %d", c.f, b, e, c.want)
		}
	}
	for _, kind := range noKinds() {
		for _, f := range []frame.Frame{{Kind: kind}, full(kind)} {
			if b, e := frame.Lay(f); e != api.ErrKind || len(b) != 0 {
				t.Errorf("Lay of kind %d = %x, %d", kind, b, e)
			}
		}
	}
}

// TestOtherFields has what may not be laid in the fields of other kinds.
func TestOtherFields(t *testing.T) { // P19.1
	for _, f := range samples() {
		g := f
		g.Off, g.Total, g.Sum = f.Off^most, f.Total^most, digest.Of([]byte("other"))
		g.Data, g.Ranges, g.Code = bytesOf(300), make([]frame.Range, 9), 1000
		handFields(&g, f)
		b, e := frame.Lay(f)
		other, otherErr := frame.Lay(g)
		if e != api.OK || otherErr != api.OK || !bytes.Equal(b, other) {
			t.Errorf("Lay(%+v) = %x, %d, but of what has other fields, too, %x, %d", f, b, e, other, otherErr)
		}
	}
}

func TestLayTurnsNothing(t *testing.T) { // P19.1
	for _, kind := range kinds() {
		f := full(kind)
		f.Data = append(bytesOf(20), 1, 2, 3, 4)[:20]
		behind := f.Data[20:24]
		b, e := frame.Lay(f)
		if e != api.OK {
			t.Fatal(e)
		}
		clear(b)
		if !bytes.Equal(f.Data, bytesOf(20)) || !bytes.Equal(behind, []byte{1, 2, 3, 4}) || !slices.Equal(f.Ranges, full(kind).Ranges) {
			t.Errorf("Lay of kind %d turned what it was handed: %+v", kind, f)
		}
	}
}

func TestSame(t *testing.T) { // P19.1
	others := map[string]func(f *frame.Frame){
		"Kind":               func(f *frame.Frame) { f.Kind++ },
		"Kind, by 256":       func(f *frame.Frame) { f.Kind += 256 },
		"Token, first":       func(f *frame.Frame) { f.Token[0]++ },
		"Token, last":        func(f *frame.Frame) { f.Token[15]++ },
		"S":                  func(f *frame.Frame) { f.Epoch.S++ },
		"R":                  func(f *frame.Frame) { f.Epoch.R++ },
		"Off":                func(f *frame.Frame) { f.Off++ },
		"Off, high":          func(f *frame.Frame) { f.Off ^= 1 << 63 },
		"Total":              func(f *frame.Frame) { f.Total++ },
		"Total, high":        func(f *frame.Frame) { f.Total ^= 1 << 63 },
		"Sum, first":         func(f *frame.Frame) { f.Sum[0]++ },
		"Sum, last":          func(f *frame.Frame) { f.Sum[31]++ },
		"Data, first":        func(f *frame.Frame) { f.Data = append([]byte{'S'}, f.Data[1:]...) },
		"Data, last":         func(f *frame.Frame) { f.Data = append(f.Data[:len(f.Data)-1:len(f.Data)-1], 0) },
		"Data, one more":     func(f *frame.Frame) { f.Data = append(f.Data, 0) },
		"Data, one less":     func(f *frame.Frame) { f.Data = f.Data[:len(f.Data)-1] },
		"Data, none":         func(f *frame.Frame) { f.Data = nil },
		"Ranges, first":      func(f *frame.Frame) { f.Ranges = []frame.Range{{f.Ranges[0].From + 1, f.Ranges[0].To}, f.Ranges[1]} },
		"Ranges, last":       func(f *frame.Frame) { f.Ranges = []frame.Range{f.Ranges[0], {f.Ranges[1].From, f.Ranges[1].To - 1}} },
		"Ranges, other ones": func(f *frame.Frame) { f.Ranges = []frame.Range{f.Ranges[1], f.Ranges[0]} },
		"Ranges, one more":   func(f *frame.Frame) { f.Ranges = append(f.Ranges, frame.Range{}) },
		"Ranges, one less":   func(f *frame.Frame) { f.Ranges = f.Ranges[:1] },
		"Ranges, none":       func(f *frame.Frame) { f.Ranges = nil },
		"Code":               func(f *frame.Frame) { f.Code++ },
		"Code, by 256":       func(f *frame.Frame) { f.Code += 256 },
		"Code, below 0":      func(f *frame.Frame) { f.Code = -f.Code },
	}
	for _, kind := range append(kinds(), noKinds()...) {
		if !frame.Same(full(kind), full(kind)) {
			t.Errorf("of kind %d: Same(f, f) is false", kind)
		}
		for name, turn := range others {
			f := full(kind)
			turn(&f)
			if frame.Same(full(kind), f) || frame.Same(f, full(kind)) {
				t.Errorf("of kind %d, with another %s: Same is true", kind, name)
			}
			if !frame.Same(f, f) {
				t.Errorf("of kind %d, with another %s: it is not the same as itself", kind, name)
			}
		}
	}
}

func TestSameOfNone(t *testing.T) { // P19.1: lists that are nil and empty ones are the same
	empty := frame.Frame{Data: []byte{}, Ranges: []frame.Range{}}
	if !frame.Same(frame.Frame{}, empty) || !frame.Same(empty, frame.Frame{}) || !frame.Same(empty, empty) {
		t.Error("a list that is nil and one that is empty are not the same")
	}
}

func TestSameOfSamples(t *testing.T) { // P19.1
	l := samples()
	for i, a := range l {
		for _, b := range l {
			if frame.Same(a, b) != equal(a, b) {
				t.Errorf("Same(%+v, %+v) = %t", a, b, !equal(a, b))
			}
		}
		if !frame.Same(a, samples()[i]) {
			t.Errorf("of other memory: Same(%+v) is false", a)
		}
	}
}

func TestParse(t *testing.T) { // P19.2
	for _, f := range samples() {
		b := seal(bodyWanted(f))
		if got, e := frame.Parse(b); e != api.OK || !equal(got, f) {
			t.Errorf("Parse(%x) = %+v, %d, not %+v", b, got, e, f)
		}
	}
}

// with is a datagram's body with other bytes at a place.
func with(f frame.Frame, at int, l ...byte) []byte {
	b := bodyWanted(f)
	copy(b[at:], l)
	return b
}

func behind(f frame.Frame, l ...byte) []byte {
	return append(bodyWanted(f), l...)
}

func upto(f frame.Frame, n int) []byte {
	return bodyWanted(f)[:n]
}

// TestParseErrors has faults, and two of them at once; where the first one is told,
// the other one is another error.
func TestParseErrors(t *testing.T) { // P19.2
	of := func(kind int) frame.Frame { return full(kind) }
	reset := func(code int) frame.Frame { f := of(frame.Reset); f.Code = code; return f }
	data := func(n int) frame.Frame { f := of(frame.Data); f.Data = bytesOf(n); return f }
	sack := func(off uint64, l ...frame.Range) frame.Frame {
		f := of(frame.Sack)
		f.Off, f.Ranges = off, l
		return f
	}
	five := []frame.Range{{1, 2}, {3, 4}, {5, 6}, {7, 8}, {9, 10}}
	for name, c := range map[string]struct {
		body []byte
		want api.Errno
	}{
		"nothing":                   {nil, api.ErrEnd},
		"one byte":                  {[]byte("T"), api.ErrEnd},
		"27 bytes":                  {upto(of(frame.Reset), 27), api.ErrEnd},
		"27 bytes, none of a frame": {bytes.Repeat([]byte{9}, 27), api.ErrEnd},
		"28 bytes":                  {upto(of(frame.Reset), 28), api.ErrEnd},
		"28 bytes, none of a frame": {bytes.Repeat([]byte{9}, 28), api.ErrForm},
		"28 noughts":                {make([]byte, 28), api.ErrForm},
		"no T":                      {with(of(frame.Hello), 0, 't'), api.ErrForm},
		"no W":                      {with(of(frame.Hello), 1, 'w'), api.ErrForm},
		"turned round":              {with(of(frame.Hello), 0, 'W', 'T'), api.ErrForm},
		"no T, no kind":             {with(of(frame.Hello), 0, 'S', 'W', 0), api.ErrForm},
		"no W, another mark":        {with(of(frame.Hello), 1, 'X', 1, 1), api.ErrForm},
		"no T, not whole":           {with(of(frame.Hello), 0, 'S')[:30], api.ErrForm},
		"kind 0":                    {with(of(frame.Hello), 2, 0), api.ErrKind},
		"kind 8":                    {with(of(frame.Hello), 2, 8), api.ErrKind},
		"kind 255":                  {with(of(frame.Hello), 2, 255), api.ErrKind},
		"no kind, another mark":     {with(of(frame.Hello), 2, 8, 1), api.ErrKind},
		"no kind, not whole":        {with(of(frame.Hello), 2, 8)[:28], api.ErrKind},
		"a mark on":                 {with(of(frame.Hello), 3, 1), api.ErrEpoch},
		"a mark back":               {with(of(frame.Hello), 3, 3), api.ErrEpoch},
		"a turn on":                 {with(of(frame.Hello), 3, 4), api.ErrEpoch},
		"mark 255":                  {with(of(frame.Hello), 3, 255), api.ErrEpoch},
		"another S":                 {with(of(frame.Hello), 23, 5), api.ErrEpoch},
		"another R":                 {with(of(frame.Hello), 27, 9), api.ErrEpoch},
		"another mark, not whole":   {with(of(frame.Hello), 3, 1)[:40], api.ErrEpoch},
		"another mark, more":        {append(with(of(frame.Hello), 3, 1), 0), api.ErrEpoch},
		"another mark, code 0":      {with(reset(0), 3, 1), api.ErrEpoch},

		"Hello, no Total":         {upto(of(frame.Hello), 28), api.ErrEnd},
		"Hello, half its Total":   {upto(of(frame.Hello), 32), api.ErrEnd},
		"Hello, no Sum":           {upto(of(frame.Hello), 36), api.ErrEnd},
		"Hello, not all its Sum":  {upto(of(frame.Hello), 67), api.ErrEnd},
		"Hello, whole":            {upto(of(frame.Hello), 68), api.OK},
		"Hello, more":             {behind(of(frame.Hello), 0), api.ErrForm},
		"Resume, no Off":          {upto(of(frame.Resume), 28), api.ErrEnd},
		"Resume, not all its Off": {upto(of(frame.Resume), 35), api.ErrEnd},
		"Resume, more":            {behind(of(frame.Resume), 0), api.ErrForm},
		"Data, no Off":            {upto(of(frame.Data), 28), api.ErrEnd},
		"Data, not all its Off":   {upto(of(frame.Data), 35), api.ErrEnd},
		"Data, no byte":           {upto(of(frame.Data), 36), api.ErrEnd},
		"Data, one byte":          {upto(of(frame.Data), 37), api.OK},
		"Data, 256 bytes":         {bodyWanted(data(256)), api.OK},
		"Data, 257 bytes":         {bodyWanted(data(257)), api.ErrBig},
		"Data, many bytes":        {bodyWanted(data(1 << 16)), api.ErrBig},
		"Sack, no Off":            {upto(of(frame.Sack), 28), api.ErrEnd},
		"Sack, not all its Off":   {upto(of(frame.Sack), 35), api.ErrEnd},
		"Sack, no range":          {upto(of(frame.Sack), 36), api.OK},
		"Sack, a byte of a range": {upto(of(frame.Sack), 37), api.ErrEnd},
		"Sack, half a range":      {upto(of(frame.Sack), 44), api.ErrEnd},
		"Sack, 15 of a range":     {upto(of(frame.Sack), 51), api.ErrEnd},
		"Sack, one range":         {upto(of(frame.Sack), 52), api.OK},
		"Sack, one and a half":    {upto(of(frame.Sack), 60), api.ErrEnd},
		"Sack, four ranges":       {bodyWanted(sack(0, five[:4]...)), api.OK},
		"Sack, four, and a byte":  {behind(sack(0, five[:4]...), 0), api.ErrEnd},
		"Sack, five ranges":       {bodyWanted(sack(0, five...)), api.ErrMany},
		"Sack, five, not rising":  {bodyWanted(sack(1, five...)), api.ErrMany},
		"Sack, five, and a byte":  {behind(sack(0, five...), 0), api.ErrEnd},
		"Sack, 1000 ranges":       {bodyWanted(sack(0, make([]frame.Range, 1000)...)), api.ErrMany},
		"Sack, not above":         {bodyWanted(sack(1, five[:1]...)), api.ErrForm},
		"Sack, not rising":        {bodyWanted(sack(0, five[1], five[0])), api.ErrForm},
		"Sack, none in a range":   {bodyWanted(sack(0, frame.Range{From: 5, To: 5})), api.ErrForm},
		"Sack, rising not, half":  {behind(sack(1, five[0]), 0), api.ErrEnd},
		"Fin, no Sum":             {upto(of(frame.Fin), 36), api.ErrEnd},
		"Fin, not all its Sum":    {upto(of(frame.Fin), 67), api.ErrEnd},
		"Fin, more":               {behind(of(frame.Fin), 0), api.ErrForm},
		"Finack, no Total":        {upto(of(frame.Finack), 28), api.ErrEnd},
		"Finack, not all":         {upto(of(frame.Finack), 35), api.ErrEnd},
		"Finack, more":            {behind(of(frame.Finack), 0), api.ErrForm},
		"Finack, as Hello":        {behind(of(frame.Finack), make([]byte, 32)...), api.ErrForm},
		"Reset, no code":          {upto(of(frame.Reset), 28), api.ErrEnd},
		"Reset, code 0":           {bodyWanted(reset(0)), api.ErrForm},
		"Reset, code 1":           {bodyWanted(reset(1)), api.OK},
		"Reset, code 99":          {bodyWanted(reset(99)), api.OK},
		"Reset, code 100":         {bodyWanted(reset(100)), api.ErrForm},
		"Reset, code 255":         {bodyWanted(reset(255)), api.ErrForm},
		"Reset, more":             {behind(of(frame.Reset), 0), api.ErrForm},
		"Reset, code 0, more":     {behind(reset(0), 0), api.ErrForm},
	} {
		f, e := frame.Parse(seal(c.body))
		if e != c.want || e != api.OK && !isZero(f) {
			t.Errorf("Parse of %s = %+v, %d, not %d", name, f, e, c.want)
		}
		parses(t, seal(c.body))
	}
}

// TestParseOpens has datagrams that are not sealed.
func TestParseOpens(t *testing.T) { // P19.2
	for n := range 4 {
		if f, e := frame.Parse(bytesOf(n)); e != api.ErrEnd || !isZero(f) {
			t.Errorf("Parse of %d bytes = %+v, %d", n, f, e)
		}
	}
	if f, e := frame.Parse(nil); e != api.ErrEnd || !isZero(f) {
		t.Errorf("Parse(nil) = %+v, %d", f, e)
	}
	for _, f := range samples()[:60] {
		body := bodyWanted(f)
		b := seal(body)
		for _, c := range [][]byte{body, b[:len(b)-1], b[1:], append(bytes.Clone(b), 0), b[:4]} {
			if e := parses(t, c); e != api.ErrSum {
				t.Errorf("Parse(%x): %d", c, e)
			}
		}
	}
	// Too few bytes, and none of a frame, but the sum is what is told.
	for _, n := range []int{4, 5, 27, 31, 32} {
		if _, e := frame.Parse(bytes.Repeat([]byte{9}, n)); e != api.ErrSum {
			t.Errorf("Parse of %d bytes that are not sealed: %d", n, e)
		}
	}
}

// TestParseOfAll cuts all samples at all places, puts bytes behind, and turns each
// byte; what comes of it is sealed.
func TestParseOfAll(t *testing.T) { // P19.2
	found := map[api.Errno]int{}
	r := rand.New(rand.NewSource(2))
	for _, f := range samples() {
		body := bodyWanted(f)
		for n := range body {
			found[parses(t, seal(body[:n]))]++
			turned := bytes.Clone(body)
			turned[n] ^= byte(1 + r.Intn(255))
			found[parses(t, seal(turned))]++
			turned[n] = body[n] + byte(2*r.Intn(2)) - 1
			found[parses(t, seal(turned))]++
		}
		for n := range 40 {
			more := make([]byte, n)
			r.Read(more)
			found[parses(t, seal(append(bytes.Clone(body), more...)))]++
		}
		for kind := range 256 {
			turned := bytes.Clone(body)
			turned[2] = byte(kind)
			found[parses(t, seal(turned))]++
		}
	}
	for range 20000 {
		found[parses(t, seal(bodyWanted(chanced(r))))]++
	}
	for _, e := range []api.Errno{api.OK, api.ErrEnd, api.ErrForm, api.ErrKind, api.ErrEpoch, api.ErrBig, api.ErrMany} {
		if found[e] == 0 {
			t.Errorf("nothing has the error %d", e)
		}
	}
}

func TestParseIsNew(t *testing.T) { // P19.2
	for _, kind := range kinds() {
		f := full(kind)
		b := seal(bodyWanted(f))
		got, e := frame.Parse(b)
		clear(b)
		if e != api.OK || !equal(got, bareWanted(f)) {
			t.Errorf("of kind %d: what is parsed hangs on the bytes behind: %+v", kind, got)
		}
	}
}

func TestLaidIsParsed(t *testing.T) { // P19.3
	laid := 0
	look := func(f frame.Frame) {
		b, e := frame.Lay(f)
		if e != api.OK {
			return
		}
		laid++
		got, e := frame.Parse(b)
		if e != api.OK || !frame.Same(got, frame.Bare(f)) || !equal(got, bareWanted(f)) {
			t.Errorf("%+v is laid, but parsed as %+v, %d", f, got, e)
		}
	}
	for _, f := range samples() {
		look(f)
	}
	for _, kind := range kinds() {
		look(full(kind))
	}
	if laid != len(samples())+len(kinds()) {
		t.Errorf("just %d of them were laid", laid)
	}
	r := rand.New(rand.NewSource(3))
	for range 20000 {
		look(chanced(r))
	}
}

func TestParsedIsLaid(t *testing.T) { // P19.3
	parsed := 0
	look := func(b []byte) {
		f, e := frame.Parse(b)
		if e != api.OK {
			return
		}
		parsed++
		if got, e := frame.Lay(f); e != api.OK || !bytes.Equal(got, b) {
			t.Errorf("%x is parsed as %+v, but laid as %x, %d", b, f, got, e)
		}
	}
	r := rand.New(rand.NewSource(4))
	for _, f := range samples() {
		body := bodyWanted(f)
		look(seal(body))
		for n := range body {
			look(seal(body[:n]))
			turned := bytes.Clone(body)
			turned[n] ^= byte(1 + r.Intn(255))
			look(seal(turned))
		}
	}
	if parsed < 1000 {
		t.Errorf("just %d of them were parsed", parsed)
	}
}

// turnings are what four bytes in a row are turned by; the last ones are by chance.
func turnings(r *rand.Rand) [][4]byte {
	l := [][4]byte{{1}, {128}, {255}, {1, 1}, {1, 0, 1}, {1, 0, 0, 1}, {255, 255}, {255, 255, 255}, {255, 255, 255, 255}, {128, 0, 0, 1}, {1, 0, 0, 128}, {'T', 'W', 0, 0}}
	for range 12 {
		var by [4]byte
		r.Read(by[:])
		l = append(l, by)
	}
	return l
}

func TestTurned(t *testing.T) { // P19.4
	r := rand.New(rand.NewSource(5))
	refused := 0
	for _, f := range samples() {
		b, e := frame.Lay(f)
		if e != api.OK {
			t.Fatal(e)
		}
		for at := range b {
			for _, by := range turnings(r) {
				turned := bytes.Clone(b)
				for i := range min(4, len(b)-at) {
					turned[at+i] ^= by[i]
				}
				if bytes.Equal(turned, b) {
					continue
				}
				refused++
				if got, e := frame.Parse(turned); e == api.OK || !isZero(got) {
					t.Errorf("%x, turned at %d to %x, is parsed as %+v, %d", b, at, turned, got, e)
				}
			}
		}
	}
	if refused < 10000 {
		t.Errorf("just %d were turned", refused)
	}
}
