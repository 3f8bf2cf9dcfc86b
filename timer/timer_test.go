package timer_test

import (
	"math"
	"slices"
	"testing"

	"thwart/api"
	"thwart/timer"
)

const most = 10000 // of ticks, and of firings

// edges are numbers: those about the limits of a wait, and the ends of their type.
func edges() []int {
	l := []int{math.MinInt, math.MinInt + 1, math.MinInt32, -(1 << 32) + 1, -most, math.MaxInt32, math.MaxInt32 + 1, 1<<32 + 1, 1<<32 + 16, math.MaxInt - 1, math.MaxInt}
	for n := -17; n <= 34; n++ {
		l = append(l, n)
	}
	return append(l, 255, 256, 257, 272, most)
}

// all are timers of all of the edges, on and off.
func all() []timer.Timer {
	var l []timer.Timer
	for _, wait := range edges() {
		for _, left := range edges() {
			l = append(l, timer.Timer{Wait: wait, Left: left}, timer.Timer{On: true, Wait: wait, Left: left})
		}
	}
	return l
}

// on are all timers that are on and may be, written down one by one: of each wait as
// many as it has ticks.
func on() []timer.Timer {
	var l []timer.Timer
	for wait := 1; wait <= 16; wait++ {
		for left := 1; left <= wait; left++ {
			l = append(l, timer.Timer{On: true, Wait: wait, Left: left})
		}
	}
	return l
}

// off is the one that is off and may be.
var off = timer.Timer{}

// started is Start's.
func started(t *testing.T, wait int) timer.Timer {
	t.Helper()
	m, e := timer.Start(wait)
	if e != api.OK {
		t.Fatalf("Start(%d): %d", wait, e)
	}
	return m
}

// firings are the ticks, the first one being 1, at which a timer fires, of so many
// ticks: the time of each firing is told ahead by the wait.
func firings(m timer.Timer, ticks int) []int {
	if !m.On {
		return nil
	}
	var l []int
	at, wait := m.Left, m.Wait
	for at <= ticks {
		l = append(l, at)
		wait *= 2
		if wait > 16 {
			wait = 16
		}
		at += wait
	}
	return l
}

// later is where a timer stands so many ticks on.
func later(m timer.Timer, ticks int) timer.Timer {
	if !m.On {
		return m
	}
	at, wait := m.Left, m.Wait
	for at <= ticks {
		wait *= 2
		if wait > 16 {
			wait = 16
		}
		at += wait
	}
	return timer.Timer{On: true, Wait: wait, Left: at - ticks}
}

func TestMay(t *testing.T) { // P20.1
	for _, c := range []struct {
		m    timer.Timer
		want bool
	}{
		{timer.Timer{}, true},
		{timer.Timer{On: true, Wait: 1, Left: 1}, true},
		{timer.Timer{On: true, Wait: 3, Left: 2}, true}, // a wait need be no power of 2
		{timer.Timer{On: true, Wait: 16, Left: 1}, true},
		{timer.Timer{On: true, Wait: 16, Left: 16}, true},
		// Off, and not of noughts.
		{timer.Timer{Wait: 1}, false},
		{timer.Timer{Left: 1}, false},
		{timer.Timer{Wait: 1, Left: 1}, false},
		{timer.Timer{Wait: -1}, false},
		{timer.Timer{Wait: 16, Left: 16}, false},
		// On, and of another wait.
		{timer.Timer{On: true}, false},
		{timer.Timer{On: true, Left: 1}, false},
		{timer.Timer{On: true, Wait: -1, Left: -1}, false},
		{timer.Timer{On: true, Wait: 17, Left: 1}, false},
		{timer.Timer{On: true, Wait: 17, Left: 17}, false},
		// On, and of none left, or of too many.
		{timer.Timer{On: true, Wait: 1}, false},
		{timer.Timer{On: true, Wait: 16}, false},
		{timer.Timer{On: true, Wait: 4, Left: -1}, false},
		{timer.Timer{On: true, Wait: 1, Left: 2}, false},
		{timer.Timer{On: true, Wait: 4, Left: 5}, false},
		{timer.Timer{On: true, Wait: 16, Left: 17}, false},
		{timer.Timer{On: true, Wait: math.MaxInt, Left: math.MaxInt}, false},
		{timer.Timer{On: true, Wait: 16, Left: math.MinInt}, false},
	} {
		if got := timer.May(c.m); got != c.want {
			t.Errorf("May(%+v) = %t", c.m, got)
		}
	}
}

func TestMayOfAll(t *testing.T) { // P20.1
	right := append(on(), off)
	found := 0
	for _, m := range all() {
		want := slices.Contains(right, m)
		if want {
			found++
		}
		if got := timer.May(m); got != want {
			t.Errorf("May(%+v) = %t", m, got)
		}
	}
	if found != len(right) || found != 137 { // 1 to 16 put together, and the one that is off
		t.Errorf("of %d timers that may be %d were asked", len(right), found)
	}
}

func TestStart(t *testing.T) { // P20.1
	for wait := 1; wait <= 16; wait++ {
		m, e := timer.Start(wait)
		if want := (timer.Timer{On: true, Wait: wait, Left: wait}); m != want || e != api.OK {
			t.Errorf("Start(%d) = %+v, %d, not %+v", wait, m, e, want)
		}
		if !timer.May(m) {
			t.Errorf("Start(%d) = %+v may not be", wait, m)
		}
	}
	for _, wait := range edges() {
		if wait >= 1 && wait <= 16 {
			continue
		}
		if m, e := timer.Start(wait); m != off || e != api.ErrArg {
			t.Errorf("Start(%d) = %+v, %d", wait, m, e)
		}
	}
}

func TestStop(t *testing.T) { // P20.1
	for _, m := range append(all(), on()...) {
		if got := timer.Stop(m); got != off {
			t.Errorf("Stop(%+v) = %+v", m, got)
		}
	}
}

func TestAgain(t *testing.T) { // P20.1
	first := timer.Timer{On: true, Wait: 1, Left: 1}
	for _, m := range append(all(), on()...) {
		want := m
		if m.On {
			want = first
		}
		if got := timer.Again(m); got != want {
			t.Errorf("Again(%+v) = %+v, not %+v", m, got, want)
		}
	}
	if m := started(t, 1); m != first {
		t.Errorf("Start(1) = %+v, which is not what Again gives", m)
	}
}

func TestTick(t *testing.T) { // P20.2
	for _, c := range []struct {
		m, want timer.Timer
		fired   bool
	}{
		{timer.Timer{}, timer.Timer{}, false},
		{timer.Timer{On: true, Wait: 2, Left: 2}, timer.Timer{On: true, Wait: 2, Left: 1}, false},
		{timer.Timer{On: true, Wait: 16, Left: 16}, timer.Timer{On: true, Wait: 16, Left: 15}, false},
		{timer.Timer{On: true, Wait: 16, Left: 2}, timer.Timer{On: true, Wait: 16, Left: 1}, false},
		// It fires: its wait is twice as long, but at most 16.
		{timer.Timer{On: true, Wait: 1, Left: 1}, timer.Timer{On: true, Wait: 2, Left: 2}, true},
		{timer.Timer{On: true, Wait: 2, Left: 1}, timer.Timer{On: true, Wait: 4, Left: 4}, true},
		{timer.Timer{On: true, Wait: 3, Left: 1}, timer.Timer{On: true, Wait: 6, Left: 6}, true},
		{timer.Timer{On: true, Wait: 7, Left: 1}, timer.Timer{On: true, Wait: 14, Left: 14}, true},
		{timer.Timer{On: true, Wait: 8, Left: 1}, timer.Timer{On: true, Wait: 16, Left: 16}, true},
		{timer.Timer{On: true, Wait: 9, Left: 1}, timer.Timer{On: true, Wait: 16, Left: 16}, true},
		{timer.Timer{On: true, Wait: 15, Left: 1}, timer.Timer{On: true, Wait: 16, Left: 16}, true},
		{timer.Timer{On: true, Wait: 16, Left: 1}, timer.Timer{On: true, Wait: 16, Left: 16}, true},
		// Those that may not be stay as they are.
		{timer.Timer{Wait: 1, Left: 1}, timer.Timer{Wait: 1, Left: 1}, false},
		{timer.Timer{Left: 1}, timer.Timer{Left: 1}, false},
		{timer.Timer{On: true}, timer.Timer{On: true}, false},
		{timer.Timer{On: true, Wait: 4}, timer.Timer{On: true, Wait: 4}, false},
		{timer.Timer{On: true, Wait: 4, Left: 5}, timer.Timer{On: true, Wait: 4, Left: 5}, false},
		{timer.Timer{On: true, Wait: 17, Left: 1}, timer.Timer{On: true, Wait: 17, Left: 1}, false},
		{timer.Timer{On: true, Wait: 0, Left: 1}, timer.Timer{On: true, Wait: 0, Left: 1}, false},
		{timer.Timer{On: true, Wait: math.MaxInt, Left: 1}, timer.Timer{On: true, Wait: math.MaxInt, Left: 1}, false},
		{timer.Timer{On: true, Wait: 16, Left: math.MinInt}, timer.Timer{On: true, Wait: 16, Left: math.MinInt}, false},
	} {
		if got, fired := timer.Tick(c.m); got != c.want || fired != c.fired {
			t.Errorf("Tick(%+v) = %+v, %t, not %+v", c.m, got, fired, c.want)
		}
	}
}

func TestTickOfAll(t *testing.T) { // P20.2
	right := on()
	for _, m := range all() {
		want, wantFired := m, false
		if slices.Contains(right, m) {
			want, wantFired = later(m, 1), len(firings(m, 1)) == 1
		}
		got, fired := timer.Tick(m)
		if got != want || fired != wantFired {
			t.Errorf("Tick(%+v) = %+v, %t, not %+v, %t", m, got, fired, want, wantFired)
		}
		if timer.May(m) && !timer.May(got) {
			t.Errorf("Tick(%+v) = %+v, which may not be", m, got)
		}
	}
}

func TestTicks(t *testing.T) { // P20.2
	first := started(t, 1)
	for _, c := range []struct {
		m     timer.Timer
		n     int
		want  timer.Timer
		fired int
	}{
		{first, 0, first, 0},
		{first, -1, first, 0},
		{first, math.MinInt, first, 0},
		{first, 1, timer.Timer{On: true, Wait: 2, Left: 2}, 1},
		{first, 2, timer.Timer{On: true, Wait: 2, Left: 1}, 1},
		{first, 3, timer.Timer{On: true, Wait: 4, Left: 4}, 2},
		{first, 30, timer.Timer{On: true, Wait: 16, Left: 1}, 4},
		{first, 31, timer.Timer{On: true, Wait: 16, Left: 16}, 5},
		{first, 32, timer.Timer{On: true, Wait: 16, Left: 15}, 5},
		{first, 47, timer.Timer{On: true, Wait: 16, Left: 16}, 6},
		// 10000 ticks are 31, 623 times 16, and one more.
		{first, most - 1, timer.Timer{On: true, Wait: 16, Left: 16}, 628},
		{first, most, timer.Timer{On: true, Wait: 16, Left: 15}, 628},
		{first, most + 1, timer.Timer{On: true, Wait: 16, Left: 15}, 628},
		{first, 1<<32 + 1, timer.Timer{On: true, Wait: 16, Left: 15}, 628},
		{first, math.MaxInt, timer.Timer{On: true, Wait: 16, Left: 15}, 628},
		{off, 100, off, 0},
		{off, math.MaxInt, off, 0},
		{timer.Timer{Wait: 1, Left: 1}, 5, timer.Timer{Wait: 1, Left: 1}, 0},
		{timer.Timer{On: true, Wait: 17, Left: 1}, 50, timer.Timer{On: true, Wait: 17, Left: 1}, 0},
		{timer.Timer{On: true, Wait: 3, Left: 4}, 50, timer.Timer{On: true, Wait: 3, Left: 4}, 0},
	} {
		if got, fired := timer.Ticks(c.m, c.n); got != c.want || fired != c.fired {
			t.Errorf("Ticks(%+v, %d) = %+v, %d, not %+v, %d", c.m, c.n, got, fired, c.want, c.fired)
		}
	}
}

func TestTicksOfAll(t *testing.T) { // P20.2
	counts := []int{most - 17, most - 16, most - 2, most - 1, most, most + 1, most + 16, 2 * most, math.MaxInt32, math.MaxInt}
	for n := -3; n < 120; n++ {
		counts = append(counts, n)
	}
	for _, m := range append(on(), off) {
		for _, n := range counts {
			ticks := max(min(n, most), 0)
			want, wantFired := later(m, ticks), len(firings(m, ticks))
			if got, fired := timer.Ticks(m, n); got != want || fired != wantFired {
				t.Errorf("Ticks(%+v, %d) = %+v, %d, not %+v, %d", m, n, got, fired, want, wantFired)
			}
		}
	}
	right := append(on(), off)
	for _, m := range all() {
		if slices.Contains(right, m) {
			continue
		}
		for _, n := range []int{-1, 0, 1, 40} {
			if got, fired := timer.Ticks(m, n); got != m || fired != 0 {
				t.Errorf("Ticks(%+v, %d) = %+v, %d", m, n, got, fired)
			}
		}
	}
}

// TestTicksAreTicks holds them against one tick behind the other.
func TestTicksAreTicks(t *testing.T) { // P20.2
	for _, m := range append(on(), off) {
		at, count := m, 0
		for n := range 200 {
			if got, fired := timer.Ticks(m, n); got != at || fired != count {
				t.Fatalf("Ticks(%+v, %d) = %+v, %d, not %+v, %d", m, n, got, fired, at, count)
			}
			var fired bool
			at, fired = timer.Tick(at)
			if fired {
				count++
			}
		}
	}
}

func TestLongest(t *testing.T) { // P20.2
	for _, c := range []struct{ n, want int }{
		{math.MinInt, 0},
		{-most, 0},
		{-1, 0},
		{0, 0},
		{1, 1},
		{2, 3},
		{3, 7},
		{4, 15},
		{5, 31},
		{6, 47},
		{7, 63},
		{100, 31 + 95*16},
		{most - 1, 31 + (most-6)*16},
		{most, 31 + (most-5)*16},
		{most + 1, 31 + (most-5)*16},
		{1<<32 + 1, 31 + (most-5)*16},
		{math.MaxInt, 31 + (most-5)*16},
	} {
		if got := timer.Longest(c.n); got != c.want {
			t.Errorf("Longest(%d) = %d, not %d", c.n, got, c.want)
		}
	}
}

// TestLongestIsEnough counts the ticks of a timer until it fired so often: one tick
// less is not enough.
func TestLongestIsEnough(t *testing.T) { // P20.2
	m := started(t, 1)
	ticks := 0
	for n := 1; n <= most; n++ {
		for fired := false; !fired; {
			m, fired = timer.Tick(m)
			ticks++
		}
		if got := timer.Longest(n); got != ticks {
			t.Fatalf("Longest(%d) = %d, not %d", n, got, ticks)
		}
	}
	for n := 1; timer.Longest(n) <= most; n++ {
		if _, fired := timer.Ticks(started(t, 1), timer.Longest(n)); fired != n {
			t.Errorf("within %d ticks it fires %d times, not %d", timer.Longest(n), fired, n)
		}
		if _, fired := timer.Ticks(started(t, 1), timer.Longest(n)-1); fired != n-1 {
			t.Errorf("within %d ticks it fires %d times, not %d", timer.Longest(n)-1, fired, n-1)
		}
	}
}

func TestExample(t *testing.T) { // the chapter's example
	m := started(t, 1)
	var got []int
	for tick := 1; tick <= 100; tick++ {
		var fired bool
		if m, fired = timer.Tick(m); fired {
			got = append(got, tick)
		}
	}
	if want := []int{1, 3, 7, 15, 31, 47, 63, 79, 95}; !slices.Equal(got, want) {
		t.Errorf("it fires at %v, not at %v", got, want)
	}
}

func TestItFires(t *testing.T) { // P20.3
	for wait := 1; wait <= 16; wait++ {
		m := started(t, wait)
		last, count := 0, 0
		for tick := 1; tick <= 1000; tick++ {
			var fired bool
			m, fired = timer.Tick(m)
			if !timer.May(m) || !m.On {
				t.Fatalf("Start(%d), %d ticks on, is %+v", wait, tick, m)
			}
			if !fired {
				continue
			}
			if count == 0 && tick != wait {
				t.Errorf("Start(%d) fires first at tick %d", wait, tick)
			}
			if tick-last > 16 {
				t.Errorf("Start(%d) fires at %d, and then at %d", wait, last, tick)
			}
			last = tick
			count++
		}
		if 1000-last >= 16 {
			t.Errorf("Start(%d) fires %d times, and behind %d no more", wait, count, last)
		}
	}
}

// TestWhatIsStartedAgain looks at the next firing of what is started again, or
// stopped, wherever it stands.
func TestWhatIsStartedAgain(t *testing.T) { // P20.3
	for _, m := range on() {
		if _, fired := timer.Tick(timer.Again(m)); !fired {
			t.Errorf("Again(%+v) does not fire at the next tick", m)
		}
		if got, fired := timer.Ticks(timer.Stop(m), most); got != off || fired != 0 {
			t.Errorf("Stop(%+v) is %+v, and fired %d times", m, got, fired)
		}
	}
}
