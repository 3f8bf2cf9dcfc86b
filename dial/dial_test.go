package dial_test

import (
	"math"
	"math/big"
	"math/rand"
	"testing"

	"thwart/api"
	"thwart/dial"
)

const most = math.MaxUint32

// edges are counters: the first ones, and those about each power of 2.
func edges() []uint32 {
	l := []uint32{0, 1, 2, 3, 4, 5, 6, 7, 8, 9, 10, 11}
	for bit := 4; bit < 32; bit++ {
		at := uint32(1) << bit
		l = append(l, at-3, at-2, at-1, at, at+1, at+2)
	}
	return append(l, most-3, most-2, most-1, most)
}

// few are so few counters that four of them may be put together in all ways.
func few() []uint32 {
	return []uint32{0, 1, 2, 3, 4, 1<<31 - 1, 1 << 31, most - 1, most}
}

// epochs are all of these counters.
func epochs(l []uint32) []dial.Epoch {
	var all []dial.Epoch
	for _, s := range l {
		for _, r := range l {
			all = append(all, dial.Epoch{S: s, R: r})
		}
	}
	return all
}

// chanced are n epochs by chance; some of their counters are small.
func chanced(seed int64, n int) []dial.Epoch {
	r := rand.New(rand.NewSource(seed))
	var l []dial.Epoch
	for range n {
		l = append(l, dial.Epoch{S: r.Uint32() >> r.Intn(32), R: r.Uint32() >> r.Intn(32)})
	}
	return l
}

// power is i to a power: whole numbers are squared and multiplied, for each of the
// power's bits, the highest one first.
func power(n uint64) (re, im int) {
	re = 1
	for bit := 63; bit >= 0; bit-- {
		re, im = re*re-im*im, 2*re*im
		if n>>bit&1 == 1 {
			re, im = -im, re
		}
	}
	return re, im
}

// markWanted is what is left of both counters' sum, as powers are multiplied by
// adding them, and i to the power of 4 is 1.
func markWanted(e dial.Epoch) byte {
	sum := new(big.Int).Add(big.NewInt(int64(e.S)), big.NewInt(int64(e.R)))
	return byte(new(big.Int).Mod(sum, big.NewInt(4)).Int64())
}

// order is -1, 0 or 1, as an epoch's counters, S ahead of R, are one number.
func order(a, b dial.Epoch) int {
	number := func(e dial.Epoch) *big.Int {
		n := new(big.Int).Lsh(big.NewInt(int64(e.S)), 32)
		return n.Add(n, big.NewInt(int64(e.R)))
	}
	return number(a).Cmp(number(b))
}

func TestTurn(t *testing.T) { // P18.1
	for _, c := range []struct {
		n    uint32
		want complex128
	}{
		{0, 1},
		{1, 1i},
		{2, -1},
		{3, -1i}, // the chapter's example
		{4, 1},
		{5, 1i},
		{6, -1},
		{7, -1i},
		{1 << 31, 1},
		{1<<31 - 1, -1i},
		{1<<24 + 1, 1i}, // more digits than a float of 32 bits has
		{most - 3, 1},
		{most - 2, 1i},
		{most - 1, -1},
		{most, -1i},
	} {
		if z := dial.Turn(c.n); z != c.want {
			t.Errorf("Turn(%d) = %v, not %v", c.n, z, c.want)
		}
	}
}

func TestTurnIsAPower(t *testing.T) { // P18.1
	counters := edges()
	for n := range uint32(2000) {
		counters = append(counters, n, n<<20, n*2654435761)
	}
	for _, n := range counters {
		re, im := power(uint64(n))
		if z := dial.Turn(n); z != complex(float64(re), float64(im)) {
			t.Errorf("Turn(%d) = %v, not %d and %d", n, z, re, im)
		}
	}
}

func TestQuarter(t *testing.T) { // P18.1
	below := math.Copysign(0, -1)
	for _, c := range []struct {
		z    complex128
		want int
	}{
		{1, 0},
		{1i, 1},
		{-1, 2},
		{-1i, 3},
		// The sign of a nought does not count.
		{complex(1, below), 0},
		{complex(below, 1), 1},
		{complex(-1, below), 2},
		{complex(below, -1), 3},
	} {
		if q, ok := dial.Quarter(c.z); q != c.want || !ok {
			t.Errorf("Quarter(%v) = %d, %t, not %d, true", c.z, q, ok, c.want)
		}
	}
}

// TestNoQuarter puts together all parts that are near one of the four's, or far
// from it; what is none of the four is none, however near.
func TestNoQuarter(t *testing.T) { // P18.1
	parts := []float64{0, 0.5, 2, 3, 4, 255, 1 << 32, math.MaxFloat64, math.SmallestNonzeroFloat64, 1e-300, 1e-17, 1e-9, math.Sqrt2 / 2, math.Inf(1),
		1, math.Nextafter(1, 0), math.Nextafter(1, 2), 1 - 1e-9, 1 + 1e-9}
	for _, p := range parts[:len(parts):len(parts)] {
		parts = append(parts, -p)
	}
	parts = append(parts, math.NaN(), math.Copysign(0, -1))
	found := 0
	for _, re := range parts {
		for _, im := range parts {
			one := math.Abs(re) == 1 && im == 0 || re == 0 && math.Abs(im) == 1
			q, ok := dial.Quarter(complex(re, im))
			if one {
				found++
			}
			if ok != one || !ok && q != 0 {
				t.Errorf("Quarter(%v) = %d, %t", complex(re, im), q, ok)
			}
		}
	}
	if found == 0 {
		t.Error("none of the four is among them")
	}
}

func TestQuarterOfTurn(t *testing.T) { // P18.1
	for _, n := range edges() {
		for by, sign := range []complex128{1, 1i, -1, -1i} {
			want := (int(n&3) + by) & 3
			if q, ok := dial.Quarter(dial.Turn(n) * sign); q != want || !ok {
				t.Errorf("Quarter(Turn(%d) * %v) = %d, %t, not %d", n, sign, q, ok, want)
			}
		}
	}
}

func TestMark(t *testing.T) { // P18.1
	for _, c := range []struct {
		s, r uint32
		want byte
	}{
		{0, 0, 0},
		{1, 0, 1},
		{0, 1, 1},
		{1, 1, 2},
		{1, 2, 3}, // the chapter's example
		{2, 1, 3},
		{2, 2, 0},
		{3, 0, 3},
		{0, 3, 3},
		{3, 1, 0},
		{1, 3, 0},
		{3, 2, 1},
		{3, 3, 2},
		{4, 5, 1},
		{most, 0, 3},
		{0, most, 3},
		{most, 1, 0},
		{most, most, 2},
		{most - 1, most, 1},
		{1 << 31, 1 << 31, 0},
	} {
		if m := dial.Mark(dial.Epoch{S: c.s, R: c.r}); m != c.want {
			t.Errorf("Mark of %d, %d = %d, not %d", c.s, c.r, m, c.want)
		}
	}
	for _, e := range append(epochs(edges()), chanced(1, 5000)...) {
		if m := dial.Mark(e); m != markWanted(e) {
			t.Errorf("Mark(%v) = %d, not %d", e, m, markWanted(e))
		}
	}
}

func TestNewer(t *testing.T) { // P18.2
	for _, c := range []struct {
		a, b dial.Epoch
		want bool
	}{
		{dial.Epoch{}, dial.Epoch{}, false},
		{dial.Epoch{S: 1}, dial.Epoch{}, true},
		{dial.Epoch{}, dial.Epoch{S: 1}, false},
		{dial.Epoch{R: 1}, dial.Epoch{}, true},
		{dial.Epoch{}, dial.Epoch{R: 1}, false},
		// S stands ahead of R.
		{dial.Epoch{S: 1}, dial.Epoch{R: 1}, true},
		{dial.Epoch{R: 1}, dial.Epoch{S: 1}, false},
		{dial.Epoch{S: 2, R: 3}, dial.Epoch{S: 1, R: 4}, true},
		{dial.Epoch{S: 1, R: 4}, dial.Epoch{S: 2, R: 3}, false},
		{dial.Epoch{S: 1}, dial.Epoch{R: most}, true},
		{dial.Epoch{R: most}, dial.Epoch{S: 1}, false},
		{dial.Epoch{S: 5, R: 6}, dial.Epoch{S: 5, R: 6}, false},
		{dial.Epoch{S: 5, R: 7}, dial.Epoch{S: 5, R: 6}, true},
		{dial.Epoch{S: 5, R: 6}, dial.Epoch{S: 5, R: 7}, false},
		// No counter goes round, and none is below 0.
		{dial.Epoch{S: most}, dial.Epoch{}, true},
		{dial.Epoch{}, dial.Epoch{S: most}, false},
		{dial.Epoch{R: most}, dial.Epoch{}, true},
		{dial.Epoch{}, dial.Epoch{R: most}, false},
		{dial.Epoch{S: 1 << 31}, dial.Epoch{S: 1<<31 - 1}, true},
		{dial.Epoch{S: 7, R: 1 << 31}, dial.Epoch{S: 7, R: 1<<31 - 1}, true},
		{dial.Epoch{S: most, R: most}, dial.Epoch{S: most, R: most}, false},
	} {
		if got := dial.Newer(c.a, c.b); got != c.want {
			t.Errorf("Newer(%v, %v) = %t", c.a, c.b, got)
		}
	}
}

// pairs are of epochs: all of few counters, and some by chance.
func pairs(told func(a, b dial.Epoch)) {
	l := epochs(few())
	for _, a := range l {
		for _, b := range l {
			told(a, b)
		}
	}
	l = chanced(2, 3000)
	for i, a := range l {
		b := l[len(l)-1-i]
		told(a, b)
		told(a, dial.Epoch{S: a.S, R: b.R})
		told(a, dial.Epoch{S: b.S, R: a.R})
	}
}

func TestNewerIsAnOrder(t *testing.T) { // P18.2
	pairs(func(a, b dial.Epoch) {
		if got := dial.Newer(a, b); got != (order(a, b) > 0) {
			t.Errorf("Newer(%v, %v) = %t", a, b, got)
		}
	})
}

func TestNextS(t *testing.T) { // P18.2
	for _, c := range []struct {
		e, want dial.Epoch
		err     api.Errno
	}{
		{dial.Epoch{}, dial.Epoch{S: 1}, api.OK},
		{dial.Epoch{S: 1, R: 2}, dial.Epoch{S: 2, R: 2}, api.OK},
		{dial.Epoch{S: 7, R: most}, dial.Epoch{S: 8, R: most}, api.OK},
		{dial.Epoch{S: 1<<31 - 1, R: 4}, dial.Epoch{S: 1 << 31, R: 4}, api.OK},
		{dial.Epoch{S: most - 1, R: 5}, dial.Epoch{S: most, R: 5}, api.OK},
		{dial.Epoch{S: most}, dial.Epoch{}, api.ErrBig},
		{dial.Epoch{S: most, R: 5}, dial.Epoch{}, api.ErrBig},
		{dial.Epoch{S: most, R: most}, dial.Epoch{}, api.ErrBig},
	} {
		if e, err := dial.NextS(c.e); e != c.want || err != c.err {
			t.Errorf("NextS(%v) = %v, %d, not %v, %d", c.e, e, err, c.want, c.err)
		}
	}
	for _, at := range append(epochs(edges()), chanced(3, 2000)...) {
		want, wantErr := dial.Epoch{S: at.S + 1, R: at.R}, api.OK
		if at.S == most {
			want, wantErr = dial.Epoch{}, api.ErrBig
		}
		if e, err := dial.NextS(at); e != want || err != wantErr {
			t.Errorf("NextS(%v) = %v, %d, not %v, %d", at, e, err, want, wantErr)
		}
	}
}

func TestNextR(t *testing.T) { // P18.2
	for _, c := range []struct {
		e, want dial.Epoch
		err     api.Errno
	}{
		{dial.Epoch{}, dial.Epoch{R: 1}, api.OK},
		{dial.Epoch{S: 1, R: 2}, dial.Epoch{S: 1, R: 3}, api.OK},
		{dial.Epoch{S: most, R: 7}, dial.Epoch{S: most, R: 8}, api.OK},
		{dial.Epoch{S: 4, R: 1<<31 - 1}, dial.Epoch{S: 4, R: 1 << 31}, api.OK},
		{dial.Epoch{S: 5, R: most - 1}, dial.Epoch{S: 5, R: most}, api.OK},
		{dial.Epoch{R: most}, dial.Epoch{}, api.ErrBig},
		{dial.Epoch{S: 5, R: most}, dial.Epoch{}, api.ErrBig},
		{dial.Epoch{S: most, R: most}, dial.Epoch{}, api.ErrBig},
	} {
		if e, err := dial.NextR(c.e); e != c.want || err != c.err {
			t.Errorf("NextR(%v) = %v, %d, not %v, %d", c.e, e, err, c.want, c.err)
		}
	}
	for _, at := range append(epochs(edges()), chanced(4, 2000)...) {
		want, wantErr := dial.Epoch{S: at.S, R: at.R + 1}, api.OK
		if at.R == most {
			want, wantErr = dial.Epoch{}, api.ErrBig
		}
		if e, err := dial.NextR(at); e != want || err != wantErr {
			t.Errorf("NextR(%v) = %v, %d, not %v, %d", at, e, err, want, wantErr)
		}
	}
}

func TestCheck(t *testing.T) { // P18.2
	for _, c := range []struct {
		e, now dial.Epoch
		mark   byte
		want   api.Errno
	}{
		{dial.Epoch{}, dial.Epoch{}, 0, api.OK},
		{dial.Epoch{S: 1, R: 2}, dial.Epoch{S: 1, R: 2}, 3, api.OK},
		{dial.Epoch{S: most, R: most}, dial.Epoch{S: most, R: most}, 2, api.OK},
		// Another mark: one quarter off, and the same quarter a turn on.
		{dial.Epoch{S: 1, R: 2}, dial.Epoch{S: 1, R: 2}, 2, api.ErrEpoch},
		{dial.Epoch{S: 1, R: 2}, dial.Epoch{S: 1, R: 2}, 0, api.ErrEpoch},
		{dial.Epoch{S: 1, R: 2}, dial.Epoch{S: 1, R: 2}, 7, api.ErrEpoch},
		{dial.Epoch{}, dial.Epoch{}, 4, api.ErrEpoch},
		{dial.Epoch{}, dial.Epoch{}, 255, api.ErrEpoch},
		// Another epoch, older or newer, with its own mark, with that of now, with both.
		{dial.Epoch{S: 1, R: 1}, dial.Epoch{S: 1, R: 2}, 2, api.ErrEpoch},
		{dial.Epoch{S: 1, R: 1}, dial.Epoch{S: 1, R: 2}, 3, api.ErrEpoch},
		{dial.Epoch{S: 2, R: 2}, dial.Epoch{S: 1, R: 2}, 0, api.ErrEpoch},
		{dial.Epoch{S: 2, R: 1}, dial.Epoch{S: 1, R: 2}, 3, api.ErrEpoch},
		{dial.Epoch{S: 1, R: 6}, dial.Epoch{S: 1, R: 2}, 3, api.ErrEpoch},
		{dial.Epoch{S: 5, R: 2}, dial.Epoch{S: 1, R: 2}, 3, api.ErrEpoch},
	} {
		if err := dial.Check(c.e, c.now, c.mark); err != c.want {
			t.Errorf("Check(%v, %v, %d) = %d, not %d", c.e, c.now, c.mark, err, c.want)
		}
	}
	for _, e := range append(epochs(few()), chanced(5, 100)...) {
		for mark := range 256 {
			want := api.ErrEpoch
			if byte(mark) == markWanted(e) {
				want = api.OK
			}
			if err := dial.Check(e, e, byte(mark)); err != want {
				t.Errorf("Check(%v, %v, %d) = %d, not %d", e, e, mark, err, want)
			}
		}
	}
	pairs(func(e, now dial.Epoch) {
		for mark := range byte(8) {
			want := api.ErrEpoch
			if e == now && mark == markWanted(e) {
				want = api.OK
			}
			if err := dial.Check(e, now, mark); err != want {
				t.Errorf("Check(%v, %v, %d) = %d, not %d", e, now, mark, err, want)
			}
		}
	})
}

func TestJustOneIsNewer(t *testing.T) { // P18.3
	pairs(func(a, b dial.Epoch) {
		if (dial.Newer(a, b) != dial.Newer(b, a)) != (a != b) {
			t.Errorf("of %v and %v, newer are %t and %t", a, b, dial.Newer(a, b), dial.Newer(b, a))
		}
		if a == b && dial.Newer(a, b) {
			t.Errorf("%v is newer than itself", a)
		}
	})
}

func TestANextOneIsNewer(t *testing.T) { // P18.3
	for _, at := range append(epochs(edges()), chanced(6, 5000)...) {
		for name, next := range map[string]func(dial.Epoch) (dial.Epoch, api.Errno){"NextS": dial.NextS, "NextR": dial.NextR} {
			e, err := next(at)
			if err != api.OK {
				if name == "NextS" && at.S != most || name == "NextR" && at.R != most {
					t.Errorf("%s(%v): %d", name, at, err)
				}
				continue
			}
			if !dial.Newer(e, at) || dial.Newer(at, e) {
				t.Errorf("%s(%v) = %v, which is not newer", name, at, e)
			}
			if from, to := dial.Mark(at), dial.Mark(e); to != (from+1)%4 {
				t.Errorf("%s(%v): the mark goes on from %d to %d", name, at, from, to)
			}
			if dial.Check(at, e, dial.Mark(at)) != api.ErrEpoch || dial.Check(e, e, dial.Mark(e)) != api.OK {
				t.Errorf("%s(%v) = %v: now is one of before", name, at, e)
			}
		}
	}
}
