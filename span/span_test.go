package span_test

import (
	"math"
	"reflect"
	"slices"
	"testing"

	"thwart/span"
)

const (
	limit int64 = 1 << 62 // all numbers are below it
	width       = 8       // of the numbers that sets of the tests are of
)

// bottoms are where such numbers begin: at the least one, amid all, and so that the
// last one is the greatest of all.
func bottoms() []int64 {
	return []int64{0, 1, 1000, 1<<32 - 4, limit - width}
}

// about are numbers of arguments: the set's, those about them, and the ends of all and
// of their type.
func about(bottom int64) []int64 {
	l := []int64{math.MinInt64, math.MinInt64 + 1, -limit, math.MinInt32, 0, limit - 1, limit, limit + 1, math.MaxInt64 - 1, math.MaxInt64}
	for n := bottom - 3; n <= bottom+width+3; n++ {
		l = append(l, n)
	}
	return l
}

// few are those of them that stand near the set's.
func few(bottom int64) []int64 {
	return append(about(bottom)[10:], math.MinInt64, math.MaxInt64)
}

// there tells whether a number is in the set of those that a mask's bits tell.
func there(bottom int64, mask int, n int64) bool {
	return n >= bottom && n < bottom+width && mask>>(n-bottom)&1 == 1
}

// wanted are the ranges of a mask, found number by number.
func wanted(bottom int64, mask int) []span.Range {
	var l []span.Range
	for n := bottom; n < bottom+width; n++ {
		if !there(bottom, mask, n) {
			continue
		}
		if len(l) > 0 && l[len(l)-1].To == n {
			l[len(l)-1].To++
			continue
		}
		l = append(l, span.Range{From: n, To: n + 1})
	}
	return l
}

// setOf is the set of a mask, each number added by itself, rising.
func setOf(bottom int64, mask int) span.Set {
	var s span.Set
	for n := bottom; n < bottom+width; n++ {
		if there(bottom, mask, n) {
			s = s.Add(n, n+1)
		}
	}
	return s
}

// taken is a number as an end of a range is taken.
func taken(n int64) int64 {
	return min(max(n, 0), limit)
}

// of is the set of these ranges.
func of(l ...span.Range) span.Set {
	var s span.Set
	for _, r := range l {
		s = s.Add(r.From, r.To)
	}
	return s
}

func r(from, to int64) span.Range {
	return span.Range{From: from, To: to}
}

// same holds a set against ranges: none is nil, and a set hangs on its numbers alone.
func same(t *testing.T, s span.Set, want []span.Range) {
	t.Helper()
	got := s.Ranges()
	if !slices.Equal(got, want) || len(got) == 0 && got != nil {
		t.Errorf("ranges %v, not %v", got, want)
	}
	if !reflect.DeepEqual(s, of(want...)) {
		t.Errorf("the set of %v is another one than that of %v", got, want)
	}
}

// eachSet goes through all sets of the tests.
func eachSet(do func(bottom int64, mask int, s span.Set)) {
	for _, bottom := range bottoms() {
		for mask := range 1 << width {
			do(bottom, mask, setOf(bottom, mask))
		}
	}
}

func TestZeroSet(t *testing.T) { // P21.1
	var s span.Set
	same(t, s, nil)
	if s.Size() != 0 {
		t.Errorf("size %d", s.Size())
	}
	for _, n := range append(about(0), about(limit)...) {
		if s.Has(n) {
			t.Errorf("has %d", n)
		}
		if got, want := s.End(n), taken(n); got != want {
			t.Errorf("End(%d) = %d, not %d", n, got, want)
		}
		if got := s.Above(n, 10); got != nil {
			t.Errorf("Above(%d) = %v", n, got)
		}
		same(t, s.Cut(n), nil)
	}
	if got := s.Gaps(math.MinInt64, math.MaxInt64); !slices.Equal(got, []span.Range{r(0, limit)}) {
		t.Errorf("gaps %v", got)
	}
}

func TestAdd(t *testing.T) { // P21.1
	for _, c := range []struct {
		add, want []span.Range
	}{
		{[]span.Range{r(0, 2), r(2, 4)}, []span.Range{r(0, 4)}}, // the chapter's example
		{[]span.Range{r(2, 4), r(0, 2)}, []span.Range{r(0, 4)}},
		{[]span.Range{r(0, 2), r(3, 4)}, []span.Range{r(0, 2), r(3, 4)}},
		{[]span.Range{r(3, 4), r(0, 2)}, []span.Range{r(0, 2), r(3, 4)}},
		{[]span.Range{r(0, 2), r(3, 4), r(2, 3)}, []span.Range{r(0, 4)}},
		{[]span.Range{r(0, 2), r(4, 6), r(8, 10), r(1, 9)}, []span.Range{r(0, 10)}},
		{[]span.Range{r(0, 2), r(4, 6), r(8, 10), r(3, 7)}, []span.Range{r(0, 2), r(3, 7), r(8, 10)}},
		{[]span.Range{r(0, 2), r(4, 6), r(8, 10), r(2, 4)}, []span.Range{r(0, 6), r(8, 10)}},
		{[]span.Range{r(0, 9), r(3, 5)}, []span.Range{r(0, 9)}},
		{[]span.Range{r(3, 5), r(0, 9)}, []span.Range{r(0, 9)}},
		// Empty ones.
		{[]span.Range{r(3, 3)}, nil},
		{[]span.Range{r(5, 3)}, nil},
		{[]span.Range{r(0, 0)}, nil},
		{[]span.Range{r(-5, -3)}, nil},
		{[]span.Range{r(-5, 0)}, nil},
		{[]span.Range{r(limit, limit+1)}, nil},
		{[]span.Range{r(limit+1, math.MaxInt64)}, nil},
		{[]span.Range{r(math.MaxInt64, math.MinInt64)}, nil},
		{[]span.Range{r(0, 9), r(3, 3), r(7, 5), r(20, 20), r(-1, 0)}, []span.Range{r(0, 9)}},
		// Ends out of the numbers.
		{[]span.Range{r(-5, 3)}, []span.Range{r(0, 3)}},
		{[]span.Range{r(math.MinInt64, 1)}, []span.Range{r(0, 1)}},
		{[]span.Range{r(limit-1, limit+1)}, []span.Range{r(limit-1, limit)}},
		{[]span.Range{r(limit-1, math.MaxInt64)}, []span.Range{r(limit-1, limit)}},
		{[]span.Range{r(math.MinInt64, math.MaxInt64)}, []span.Range{r(0, limit)}},
		{[]span.Range{r(7, 9), r(math.MinInt64, math.MaxInt64)}, []span.Range{r(0, limit)}},
	} {
		same(t, of(c.add...), c.want)
	}
}

// TestAddOfAll adds ranges to each set, and looks number by number at what is there.
func TestAddOfAll(t *testing.T) { // P21.1, P21.3
	eachSet(func(bottom int64, mask int, s span.Set) {
		for _, from := range few(bottom) {
			for _, to := range few(bottom) {
				first, last := taken(from), taken(to)
				got := s.Add(from, to)
				rises(t, got)
				for _, n := range about(bottom) {
					if want := there(bottom, mask, n) || n >= first && n < last; got.Has(n) != want {
						t.Fatalf("%v with %d to %d is %v", s.Ranges(), from, to, got.Ranges())
					}
				}
				size := int64(0) // of those of the set that are not in the range
				for n := bottom; n < bottom+width; n++ {
					if there(bottom, mask, n) && (n < first || n >= last) {
						size++
					}
				}
				if got.Size() != size+max(last-first, 0) {
					t.Fatalf("%v with %d to %d has %d", s.Ranges(), from, to, got.Size())
				}
			}
		}
	})
}

// rises holds a set's ranges against what the chapter's words say of them.
func rises(t *testing.T, s span.Set) {
	t.Helper()
	last := int64(-1)
	for _, one := range s.Ranges() {
		if one.From <= last || one.To <= one.From || one.To > limit {
			t.Errorf("ranges %v", s.Ranges())
		}
		last = one.To
	}
}

func TestHas(t *testing.T) { // P21.1
	eachSet(func(bottom int64, mask int, s span.Set) {
		for _, n := range about(bottom) {
			if got, want := s.Has(n), there(bottom, mask, n); got != want {
				t.Fatalf("%v: Has(%d) = %t", s.Ranges(), n, got)
			}
		}
	})
	all := of(r(0, limit)) // numbers out of it are not taken as others
	for n, want := range map[int64]bool{-1: false, math.MinInt64: false, 0: true, limit - 1: true, limit: false, math.MaxInt64: false} {
		if got := all.Has(n); got != want {
			t.Errorf("of all, Has(%d) = %t", n, got)
		}
	}
}

func TestCovers(t *testing.T) { // P21.1
	eachSet(func(bottom int64, mask int, s span.Set) {
		for _, from := range about(bottom) {
			for _, to := range about(bottom) {
				first, last := taken(from), taken(to)
				want := true
				for n := first; n < last && want; n++ { // one that is not there ends it
					want = there(bottom, mask, n)
				}
				if got := s.Covers(from, to); got != want {
					t.Fatalf("%v: Covers(%d, %d) = %t", s.Ranges(), from, to, got)
				}
			}
		}
	})
	for _, c := range []struct {
		s    span.Set
		asks span.Range
		want bool
	}{
		{of(r(0, limit)), r(math.MinInt64, math.MaxInt64), true},
		{of(r(0, 5)), r(-3, 5), true},
		{of(r(1, 5)), r(-3, 5), false},
		{of(r(0, 5)), r(-3, 6), false},
		{of(r(7, limit)), r(7, math.MaxInt64), true},
		{of(r(7, limit-1)), r(7, math.MaxInt64), false},
		{of(r(0, 5), r(6, 9)), r(0, 9), false},
		{of(r(0, 5), r(6, 9)), r(6, 9), true},
		{span.Set{}, r(5, 5), true},
		{span.Set{}, r(9, 5), true},
		{span.Set{}, r(-9, 0), true},
		{span.Set{}, r(limit, math.MaxInt64), true},
		{span.Set{}, r(-9, 1), false},
	} {
		if got := c.s.Covers(c.asks.From, c.asks.To); got != c.want {
			t.Errorf("%v: Covers(%d, %d) = %t", c.s.Ranges(), c.asks.From, c.asks.To, got)
		}
	}
}

func TestEnd(t *testing.T) { // P21.1
	eachSet(func(bottom int64, mask int, s span.Set) {
		for _, from := range about(bottom) {
			want := taken(from)
			for there(bottom, mask, want) {
				want++
			}
			if got := s.End(from); got != want {
				t.Fatalf("%v: End(%d) = %d, not %d", s.Ranges(), from, got, want)
			}
		}
	})
	for from, want := range map[int64]int64{math.MinInt64: 5, -1: 5, 0: 5, 4: 5, 5: 5, 6: 6, 7: limit, limit - 1: limit, limit: limit, math.MaxInt64: limit} {
		if got := of(r(0, 5), r(7, limit)).End(from); got != want {
			t.Errorf("End(%d) = %d, not %d", from, got, want)
		}
	}
}

func TestRangesAndSize(t *testing.T) { // P21.1
	eachSet(func(bottom int64, mask int, s span.Set) {
		same(t, s, wanted(bottom, mask))
		rises(t, s)
		want := int64(0)
		for n := range width {
			want += int64(mask >> n & 1)
		}
		if got := s.Size(); got != want {
			t.Fatalf("%v: size %d, not %d", s.Ranges(), got, want)
		}
	})
	if got := of(r(-1, math.MaxInt64)).Size(); got != limit {
		t.Errorf("the size of all is %d", got)
	}
	if got := of(r(0, 5), r(6, math.MaxInt64)).Size(); got != limit-1 {
		t.Errorf("the size of all but one is %d", got)
	}
}

func TestAbove(t *testing.T) { // P21.2
	eachSet(func(bottom int64, mask int, s span.Set) {
		for _, n := range about(bottom) {
			var want []span.Range
			for _, one := range wanted(bottom, mask) {
				if one.From > n {
					want = append(want, one)
				}
			}
			for most := -1; most < 6; most++ {
				got, first := s.Above(n, most), want[:min(max(most, 0), len(want))]
				if !slices.Equal(got, first) || len(got) == 0 && got != nil {
					t.Fatalf("%v: Above(%d, %d) = %v, not %v", s.Ranges(), n, most, got, first)
				}
			}
		}
	})
	s := of(r(0, 2), r(4, 6), r(8, 10))
	for _, c := range []struct {
		n    int64
		most int
		want []span.Range
	}{
		{-1, 9, []span.Range{r(0, 2), r(4, 6), r(8, 10)}}, // -1 is taken as it is
		{math.MinInt64, 1, []span.Range{r(0, 2)}},
		{0, 9, []span.Range{r(4, 6), r(8, 10)}},
		{3, 1, []span.Range{r(4, 6)}},
		{4, 1, []span.Range{r(8, 10)}},
		{5, 9, []span.Range{r(8, 10)}},
		{8, 9, nil},
		{-1, 0, nil},
		{-1, -1, nil},
		{-1, math.MinInt, nil},
		{3, math.MaxInt, []span.Range{r(4, 6), r(8, 10)}},
		{math.MaxInt64, math.MaxInt, nil},
	} {
		if got := s.Above(c.n, c.most); !slices.Equal(got, c.want) {
			t.Errorf("Above(%d, %d) = %v, not %v", c.n, c.most, got, c.want)
		}
	}
}

// TestGapsOfAll looks number by number at what is in gaps, and at how many these are.
func TestGapsOfAll(t *testing.T) { // P21.2
	eachSet(func(bottom int64, mask int, s span.Set) {
		for _, from := range few(bottom) {
			for _, to := range few(bottom) {
				first, last := taken(from), taken(to)
				want := max(last-first, 0)
				l := s.Gaps(from, to)
				gaps := of(l...)
				same(t, gaps, l)
				for _, n := range about(bottom) {
					if got := gaps.Has(n); got != (n >= first && n < last && !there(bottom, mask, n)) {
						t.Fatalf("%v: Gaps(%d, %d) = %v", s.Ranges(), from, to, l)
					}
				}
				for n := bottom; n < bottom+width; n++ {
					if there(bottom, mask, n) && n >= first && n < last {
						want--
					}
				}
				if len(l) == 0 && l != nil || gaps.Size() != want {
					t.Fatalf("%v: Gaps(%d, %d) = %v, %d numbers, not %d", s.Ranges(), from, to, l, gaps.Size(), want)
				}
			}
		}
	})
}

func TestGaps(t *testing.T) { // P21.2
	s := of(r(2, 4), r(6, 8))
	for _, c := range []struct {
		from, to int64
		want     []span.Range
	}{
		{0, 10, []span.Range{r(0, 2), r(4, 6), r(8, 10)}},
		{2, 8, []span.Range{r(4, 6)}},
		{3, 7, []span.Range{r(4, 6)}},
		{3, 5, []span.Range{r(4, 5)}},
		{5, 7, []span.Range{r(5, 6)}},
		{1, 2, []span.Range{r(1, 2)}},
		{0, 1, []span.Range{r(0, 1)}},
		{8, 9, []span.Range{r(8, 9)}},
		{2, 4, nil},
		{5, 5, nil},
		{7, 3, nil},
		{9, 1, nil},
		{-5, -1, nil},
		{-5, 3, []span.Range{r(0, 2)}},
		{7, math.MaxInt64, []span.Range{r(8, limit)}},
		{limit, math.MaxInt64, nil},
		{math.MinInt64, math.MaxInt64, []span.Range{r(0, 2), r(4, 6), r(8, limit)}},
		{math.MaxInt64, math.MinInt64, nil},
	} {
		if got := s.Gaps(c.from, c.to); !slices.Equal(got, c.want) {
			t.Errorf("Gaps(%d, %d) = %v, not %v", c.from, c.to, got, c.want)
		}
	}
	if got := of(r(0, limit)).Gaps(math.MinInt64, math.MaxInt64); got != nil {
		t.Errorf("of all, gaps %v", got)
	}
}

func TestCut(t *testing.T) { // P21.2
	eachSet(func(bottom int64, mask int, s span.Set) {
		for _, n := range about(bottom) {
			left := 0
			for at := range int64(width) {
				if bottom+at >= taken(n) {
					left |= mask & (1 << at)
				}
			}
			if got := s.Cut(n); !reflect.DeepEqual(got, setOf(bottom, left)) {
				t.Fatalf("%v: Cut(%d) is %v", s.Ranges(), n, got.Ranges())
			}
		}
	})
	s := of(r(0, 2), r(4, 6), r(8, limit))
	for _, c := range []struct {
		n    int64
		want []span.Range
	}{
		{math.MinInt64, s.Ranges()},
		{0, s.Ranges()},
		{1, []span.Range{r(1, 2), r(4, 6), r(8, limit)}},
		{2, []span.Range{r(4, 6), r(8, limit)}},
		{5, []span.Range{r(5, 6), r(8, limit)}},
		{7, []span.Range{r(8, limit)}},
		{limit - 1, []span.Range{r(limit-1, limit)}},
		{limit, nil},
		{math.MaxInt64, nil},
	} {
		same(t, s.Cut(c.n), c.want)
	}
}

// TestCallsTurnNothing does all with a set that stays as it is, also where what is
// answered is written into.
func TestCallsTurnNothing(t *testing.T) { // P21.2
	eachSet(func(bottom int64, mask int, s span.Set) {
		want := wanted(bottom, mask)
		var others []span.Set
		for _, n := range few(bottom) {
			others = append(others, s.Add(n, n+3), s.Add(n, n), s.Cut(n))
			s.Has(n)
			s.Covers(n, n+2)
			s.End(n)
			s.Size()
			for _, l := range [][]span.Range{s.Ranges(), s.Above(n, 9), s.Gaps(n, bottom+width), s.Cut(n).Ranges(), s.Add(n, n).Ranges()} {
				for i := range l {
					l[i] = r(77, 7)
				}
				_ = append(l[:min(1, len(l))], r(78, 8), r(79, 9))
			}
		}
		for _, o := range others { // what was made of it turns by itself
			o.Add(0, limit)
			o.Cut(bottom+4).Add(bottom+2, bottom+3)
		}
		if got := s.Ranges(); !slices.Equal(got, want) {
			t.Fatalf("%v was %v", got, want)
		}
	})
}

// TestSetsGoOnByThemselves adds other ranges to one set, and looks at both.
func TestSetsGoOnByThemselves(t *testing.T) { // P21.2
	s := of(r(0, 2), r(4, 6), r(8, 10), r(12, 14), r(16, 18))
	left, right, less := s.Add(20, 22), s.Add(30, 32), s.Cut(5)
	inner := s.Add(5, 9)
	same(t, left, []span.Range{r(0, 2), r(4, 6), r(8, 10), r(12, 14), r(16, 18), r(20, 22)})
	same(t, right, []span.Range{r(0, 2), r(4, 6), r(8, 10), r(12, 14), r(16, 18), r(30, 32)})
	same(t, less, []span.Range{r(5, 6), r(8, 10), r(12, 14), r(16, 18)})
	same(t, inner, []span.Range{r(0, 2), r(4, 10), r(12, 14), r(16, 18)})
	same(t, s, []span.Range{r(0, 2), r(4, 6), r(8, 10), r(12, 14), r(16, 18)})
}

// orders yields all orders of a list.
func orders(l []span.Range, do func([]span.Range)) {
	if len(l) < 2 {
		do(l)
		return
	}
	for i, one := range l {
		rest := append(slices.Clone(l[:i]), l[i+1:]...)
		orders(rest, func(others []span.Range) {
			do(append([]span.Range{one}, others...))
		})
	}
}

func TestOrderIsNothing(t *testing.T) { // P21.3
	for _, l := range [][]span.Range{
		{r(0, 1), r(1, 2), r(2, 3), r(3, 4), r(4, 5), r(5, 6)},
		{r(0, 4), r(2, 6), r(8, 10), r(9, 9), r(10, 12), r(3, 5)},
		{r(0, 1), r(10, 11), r(20, 21), r(5, 15), r(30, 31), r(40, 41)},
		{r(-5, 2), r(limit-2, math.MaxInt64), r(7, 9), r(0, 2), r(9, 7), r(2, 3)},
		{r(0, limit), r(3, 4), r(9, 11), r(limit, limit+4), r(5, 6), r(1, 2)},
	} {
		first := of(l...)
		orders(l, func(other []span.Range) {
			if got := of(other...); !reflect.DeepEqual(got, first) {
				t.Fatalf("%v is %v, and in another order %v", l, first.Ranges(), got.Ranges())
			}
			if got := of(append(other, other...)...); !reflect.DeepEqual(got, first) {
				t.Fatalf("%v is %v, and twice %v", l, first.Ranges(), got.Ranges())
			}
		})
	}
}

// TestHowIsNothing makes each set in ways of other kinds: number by number, falling,
// by its ranges, and as what a cut leaves.
func TestHowIsNothing(t *testing.T) { // P21.3
	eachSet(func(bottom int64, mask int, s span.Set) {
		var falling, twice, cut span.Set
		for n := bottom + width - 1; n >= bottom; n-- {
			if there(bottom, mask, n) {
				falling = falling.Add(n, n+1)
			}
		}
		for _, one := range wanted(bottom, mask) {
			twice = twice.Add(one.From, one.From+1).Add(one.From, one.To).Add(one.To, one.To)
			cut = cut.Add(one.From, one.To)
		}
		if first := s.End(bottom); bottom > 0 {
			cut = cut.Add(bottom-1, first).Add(0, 1).Cut(bottom)
		}
		for _, other := range []span.Set{falling, twice, cut, s.Cut(0), s.Add(3, 3)} {
			if !reflect.DeepEqual(other, s) {
				t.Fatalf("%v is another one than %v", other.Ranges(), s.Ranges())
			}
		}
	})
}

func TestManyRanges(t *testing.T) { // P21.1, P21.3
	const count = 1000
	var rising, falling span.Set
	for n := range int64(count) {
		rising = rising.Add(3*n, 3*n+2)
		falling = falling.Add(3*(count-1-n), 3*(count-1-n)+2)
	}
	if !reflect.DeepEqual(rising, falling) || len(rising.Ranges()) != count || rising.Size() != 2*count {
		t.Errorf("%d ranges, %d numbers", len(rising.Ranges()), rising.Size())
	}
	for n := int64(-2); n < 3*count+2; n++ {
		want := n >= 0 && n < 3*count && n%3 != 2
		if got := rising.Has(n); got != want {
			t.Errorf("Has(%d) = %t", n, got)
		}
	}
	if got := rising.Gaps(0, 3*count); len(got) != count || got[count-1] != r(3*count-1, 3*count) {
		t.Errorf("%d gaps", len(got))
	}
	same(t, rising.Add(0, 3*count), []span.Range{r(0, 3*count)})
}
