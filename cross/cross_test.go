package cross_test

import (
	"math"
	"math/big"
	"math/rand"
	"slices"
	"testing"

	"apportion/api"
	"apportion/cross"
)

// most is the greatest coordinate.
const most = 1<<40 - 1

// four are the arguments of a call: a segment from a to b, and one from c to d.
type four struct{ a, b, c, d api.Point }

func (f four) meets() int        { return cross.Meets(f.a, f.b, f.c, f.d) }
func (f four) ends() []api.Point { return cross.Ends(f.a, f.b, f.c, f.d) }

// each returns f with each of its points changed.
func (f four) each(change func(api.Point) api.Point) four {
	return four{change(f.a), change(f.b), change(f.c), change(f.d)}
}

// alike are all ways to name the same two segments.
func (f four) alike() []four {
	return []four{
		f, {f.b, f.a, f.c, f.d}, {f.a, f.b, f.d, f.c}, {f.b, f.a, f.d, f.c},
		{f.c, f.d, f.a, f.b}, {f.c, f.d, f.b, f.a}, {f.d, f.c, f.a, f.b}, {f.d, f.c, f.b, f.a},
	}
}

func at(x, y int) api.Point { return api.Point{X: x, Y: y} }

// by returns p moved by x and y.
func by(p api.Point, x, y int) api.Point { return at(p.X+x, p.Y+y) }

// grid are the points from 0 0 to n-1 n-1.
func grid(n int) []api.Point {
	var l []api.Point
	for x := range n {
		for y := range n {
			l = append(l, at(x, y))
		}
	}
	return l
}

// fours are all calls with points of l.
func fours(l []api.Point) []four {
	var all []four
	for _, a := range l {
		for _, b := range l {
			for _, c := range l {
				for _, d := range l {
					all = append(all, four{a, b, c, d})
				}
			}
		}
	}
	return all
}

// anyPoint is a valid point, in many cases near to others or to the limit.
func anyPoint(r *rand.Rand) api.Point {
	one := func() int {
		switch r.Intn(4) {
		case 0:
			return r.Intn(7) - 3
		case 1:
			return most - r.Intn(3)
		case 2:
			return r.Intn(3) - most
		}
		return r.Intn(2*most+1) - most
	}
	return at(one(), one())
}

// anyOnLine are four points of one line of any length, of which some are moved off it by 1.
func anyOnLine(r *rand.Rand) four {
	start, step := at(r.Intn(2001)-1000, r.Intn(2001)-1000), at(r.Intn(2001)-1000, r.Intn(2001)-1000)
	times := 1 + r.Intn((most-2000)/1000)
	one := func() api.Point {
		n := []int{r.Intn(2*times+1) - times, r.Intn(4), times, -times}[r.Intn(4)]
		p := by(start, n*step.X, n*step.Y)
		if r.Intn(6) == 0 {
			return by(p, r.Intn(3)-1, r.Intn(3)-1)
		}
		return p
	}
	return four{one(), one(), one(), one()}
}

func anyFour(r *rand.Rand) four {
	if r.Intn(2) == 0 {
		return anyOnLine(r)
	}
	return four{anyPoint(r), anyPoint(r), anyPoint(r), anyPoint(r)}
}

func validSegment(a, b api.Point) bool {
	invalid := func(n int) bool { return n < -most || n > most }
	return a != b && !slices.ContainsFunc([]int{a.X, a.Y, b.X, b.Y}, invalid)
}

// product is (b - a) x (d - c), in numbers of any size.
func product(a, b, c, d api.Point) *big.Int {
	times := func(m, n int) *big.Int { return new(big.Int).Mul(big.NewInt(int64(m)), big.NewInt(int64(n))) }
	return new(big.Int).Sub(times(b.X-a.X, d.Y-c.Y), times(b.Y-a.Y, d.X-c.X))
}

// model returns how two segments meet, by solving a + s (b - a) = c + t (d - c): without turns, and without looking at the ends.
func model(f four) int {
	if !validSegment(f.a, f.b) || !validSegment(f.c, f.d) {
		return api.MeetNone
	}
	whole := product(f.a, f.b, f.c, f.d)
	if whole.Sign() == 0 {
		if product(f.a, f.b, f.a, f.c).Sign() != 0 {
			return api.MeetNone
		}
		return modelOnLine(f)
	}
	s := new(big.Rat).SetFrac(product(f.a, f.c, f.c, f.d), whole)
	t := new(big.Rat).SetFrac(product(f.a, f.c, f.a, f.b), whole)
	within := func(n *big.Rat) bool { return n.Sign() >= 0 && n.Cmp(big.NewRat(1, 1)) <= 0 }
	switch {
	case !within(s) || !within(t):
		return api.MeetNone
	case s.IsInt() || t.IsInt():
		return api.MeetTouch
	}
	return api.MeetCross
}

// modelOnLine is model for two segments of one line: it holds their shadows on an axis against each other.
func modelOnLine(f four) int {
	shadow := func(p api.Point) int { return p.X }
	if f.a.X == f.b.X {
		shadow = func(p api.Point) int { return p.Y }
	}
	a, b, c, d := shadow(f.a), shadow(f.b), shadow(f.c), shadow(f.d)
	low, high := max(min(a, b), min(c, d)), min(max(a, b), max(c, d))
	switch {
	case low > high:
		return api.MeetNone
	case low == high:
		return api.MeetTouch
	}
	return api.MeetOver
}

// modelOn reports whether the way from a to p and on to b is no detour: p is a, or b, or seen from it both lie in opposite directions.
func modelOn(p, a, b api.Point) bool {
	if p == a || p == b {
		return true
	}
	if product(a, b, a, p).Sign() != 0 {
		return false
	}
	opposite := func(m, n int) bool { return m < 0 && n > 0 || m > 0 && n < 0 }
	return opposite(a.X-p.X, b.X-p.X) || opposite(a.Y-p.Y, b.Y-p.Y)
}

func modelEnds(f four) []api.Point {
	if !validSegment(f.a, f.b) || !validSegment(f.c, f.d) {
		return nil
	}
	var l []api.Point
	add := func(p, from, to api.Point) {
		if modelOn(p, from, to) && !slices.Contains(l, p) {
			l = append(l, p)
		}
	}
	add(f.a, f.c, f.d)
	add(f.b, f.c, f.d)
	add(f.c, f.a, f.b)
	add(f.d, f.a, f.b)
	return l
}

// holdAgainstModel checks one call of both functions.
func holdAgainstModel(t *testing.T, f four) {
	t.Helper()
	if n := f.meets(); n != model(f) {
		t.Fatal(f, "meets", n, "not", model(f))
	}
	if l := f.ends(); !slices.Equal(l, modelEnds(f)) {
		t.Fatal(f, "ends", l, "not", modelEnds(f))
	}
}

// P8.1, P8.2

func TestMeetsAndEnds(t *testing.T) {
	for _, c := range []struct {
		four
		how int
		on  []api.Point
	}{
		{four{at(0, 0), at(4, 4), at(0, 4), at(4, 0)}, api.MeetCross, nil},
		{four{at(0, 0), at(3, 3), at(0, 3), at(4, 0)}, api.MeetCross, nil},
		{four{at(0, 0), at(1, 1), at(0, 1), at(1, 0)}, api.MeetCross, nil},
		{four{at(0, 0), at(4, 0), at(2, 0), at(2, 5)}, api.MeetTouch, []api.Point{at(2, 0)}},
		{four{at(2, 5), at(2, 0), at(0, 0), at(4, 0)}, api.MeetTouch, []api.Point{at(2, 0)}},
		{four{at(0, 0), at(4, 0), at(0, 0), at(0, 4)}, api.MeetTouch, []api.Point{at(0, 0)}},
		{four{at(0, 0), at(4, 0), at(4, 0), at(9, 0)}, api.MeetTouch, []api.Point{at(4, 0)}},
		{four{at(4, 0), at(0, 0), at(9, 0), at(4, 0)}, api.MeetTouch, []api.Point{at(4, 0)}},
		{four{at(0, 0), at(4, 0), at(3, 0), at(9, 0)}, api.MeetOver, []api.Point{at(4, 0), at(3, 0)}},
		{four{at(0, 0), at(0, 9), at(0, 5), at(0, 3)}, api.MeetOver, []api.Point{at(0, 5), at(0, 3)}},
		{four{at(3, 3), at(5, 5), at(9, 9), at(0, 0)}, api.MeetOver, []api.Point{at(3, 3), at(5, 5)}},
		{four{at(0, 0), at(4, 2), at(0, 0), at(4, 2)}, api.MeetOver, []api.Point{at(0, 0), at(4, 2)}},
		{four{at(0, 0), at(4, 2), at(4, 2), at(0, 0)}, api.MeetOver, []api.Point{at(0, 0), at(4, 2)}},
		{four{at(0, 0), at(4, 2), at(0, 0), at(2, 1)}, api.MeetOver, []api.Point{at(0, 0), at(2, 1)}},
		{four{at(0, 0), at(4, 0), at(0, 1), at(4, 1)}, api.MeetNone, nil},
		{four{at(0, 0), at(4, 0), at(5, 0), at(9, 0)}, api.MeetNone, nil},
		{four{at(0, 0), at(4, 0), at(5, -1), at(5, 1)}, api.MeetNone, nil},
		{four{at(0, 0), at(4, 0), at(2, 1), at(2, 5)}, api.MeetNone, nil},
		{four{at(0, 0), at(4, 0), at(9, 0), at(9, 5)}, api.MeetNone, nil},
	} {
		if n, l := c.meets(), c.ends(); n != c.how || !slices.Equal(l, c.on) {
			t.Error(c, n, l)
		}
	}
}

// TestAtTheLimit holds segments as long as there are, whose positions differ by the least that is possible.
func TestAtTheLimit(t *testing.T) {
	low, high := at(-most, -most), at(most, most)
	for _, c := range []struct {
		four
		how int
		on  []api.Point
	}{
		{four{low, high, at(-most, most), at(most, -most)}, api.MeetCross, nil},
		{four{low, high, at(most-1, most), at(most, most-1)}, api.MeetCross, nil},
		{four{low, high, at(most-1, most), at(most, most)}, api.MeetTouch, []api.Point{high}},
		{four{low, high, at(most-2, most), at(most-1, most)}, api.MeetNone, nil},
		{four{low, high, at(-most, -most+1), at(most-1, most)}, api.MeetNone, nil},
		{four{low, at(most, most-1), at(-most, -most+1), high}, api.MeetNone, nil},
		{four{low, at(most, most-1), at(most-1, most-1), high}, api.MeetNone, nil},
		{four{low, at(most, most-1), at(most-1, most-2), high}, api.MeetCross, nil},
		{four{low, high, at(most-1, most-1), at(1-most, 1-most)}, api.MeetOver, []api.Point{at(most-1, most-1), at(1-most, 1-most)}},
		{four{low, at(0, 0), high, at(1, 1)}, api.MeetNone, nil},
	} {
		if n, l := c.meets(), c.ends(); n != c.how || !slices.Equal(l, c.on) {
			t.Error(c, n, l)
		}
		holdAgainstModel(t, c.four)
	}
}

func TestAgainstModelOnGrid(t *testing.T) {
	found := map[int]int{}
	for _, f := range fours(grid(4)) {
		holdAgainstModel(t, f)
		found[f.meets()]++
	}
	if len(found) != 4 {
		t.Error(found)
	}
}

func TestAgainstModelOfAnySize(t *testing.T) {
	r := rand.New(rand.NewSource(1))
	found := map[int]int{}
	for range 60000 {
		f := anyFour(r)
		holdAgainstModel(t, f)
		found[f.meets()]++
	}
	for _, n := range []int{api.MeetNone, api.MeetTouch, api.MeetCross, api.MeetOver} {
		if found[n] < 500 {
			t.Error("too few", n, found)
		}
	}
}

// TestNotValid: points that are not valid, or equal, in each place of segments that would meet in each way.
func TestNotValid(t *testing.T) {
	wrong := []int{most + 1, -most - 1, 1 << 41, -1 << 41, math.MaxInt, math.MinInt, math.MinInt + 1}
	for _, f := range []four{
		{at(0, 0), at(4, 4), at(0, 4), at(4, 0)},
		{at(0, 0), at(4, 0), at(2, 0), at(2, 5)},
		{at(0, 0), at(4, 0), at(4, 0), at(9, 0)},
		{at(0, 0), at(4, 0), at(3, 0), at(9, 0)},
		{at(0, 0), at(4, 0), at(0, 0), at(4, 0)},
		{at(0, 0), at(0, 4), at(0, 4), at(0, 0)},
	} {
		var l []four
		for _, n := range wrong {
			for _, p := range []api.Point{at(n, 0), at(0, n), at(4, n), at(n, n)} {
				l = append(l, four{p, f.b, f.c, f.d}, four{f.a, p, f.c, f.d}, four{f.a, f.b, p, f.d}, four{f.a, f.b, f.c, p}, four{p, p, p, p})
			}
		}
		l = append(l, four{f.a, f.a, f.c, f.d}, four{f.b, f.b, f.c, f.d}, four{f.c, f.c, f.c, f.d}, four{f.a, f.b, f.c, f.c}, four{f.a, f.b, f.b, f.b}, four{f.a, f.a, f.a, f.a})
		for _, f := range l {
			if n, l := f.meets(), f.ends(); n != api.MeetNone || len(l) != 0 {
				t.Error(f, n, l)
			}
		}
	}
	within, beyond := four{at(0, 0), at(most, 0), at(1, -1), at(1, 1)}, four{at(0, 0), at(most+1, 0), at(1, -1), at(1, 1)}
	if within.meets() != api.MeetCross || beyond.meets() != api.MeetNone {
		t.Error("one beyond the limit")
	}
}

// TestNewMemory: what a caller does to a list is not seen in another one.
func TestNewMemory(t *testing.T) {
	f := four{at(0, 0), at(9, 0), at(3, 0), at(5, 0)}
	want := []api.Point{at(3, 0), at(5, 0)}
	first, second := f.ends(), f.ends()
	clear(append(first, at(7, 7), at(8, 8)))
	clear(first[:cap(first)])
	if !slices.Equal(second, want) || !slices.Equal(f.ends(), want) {
		t.Error(second, f.ends())
	}
}

// P8.3

// holdAlike checks that another call meets as f does, and has the ends that f has, each as change makes it.
func holdAlike(t *testing.T, f, other four, change func(api.Point) api.Point) {
	t.Helper()
	if f.meets() != other.meets() {
		t.Fatal(f, f.meets(), "but", other, other.meets())
	}
	l, m := f.ends(), other.ends()
	for _, p := range l {
		if !slices.Contains(m, change(p)) {
			t.Fatal(f, l, "but", other, m)
		}
	}
	if len(l) != len(m) {
		t.Fatal(f, l, "but", other, m)
	}
}

func same(p api.Point) api.Point { return p }

// mirrors are reflections in lines through 0 0.
func mirrors() []func(api.Point) api.Point {
	return []func(api.Point) api.Point{
		func(p api.Point) api.Point { return at(-p.X, p.Y) },
		func(p api.Point) api.Point { return at(p.X, -p.Y) },
		func(p api.Point) api.Point { return at(p.Y, p.X) },
		func(p api.Point) api.Point { return at(-p.Y, -p.X) },
	}
}

func TestExchangedAndMirrored(t *testing.T) {
	r := rand.New(rand.NewSource(2))
	l := fours(grid(3))
	for range 10000 {
		l = append(l, anyFour(r))
	}
	for _, f := range l {
		for _, other := range f.alike() {
			holdAlike(t, f, other, same)
		}
		for _, mirror := range mirrors() {
			holdAlike(t, f, f.each(mirror), mirror)
		}
	}
}

func TestMovedAlike(t *testing.T) {
	for _, f := range fours(grid(3)) {
		for _, to := range []api.Point{at(1, -2), at(most-2, most-2), at(-most, most-2), at(-most, -most), at(0, 1<<39)} {
			move := func(p api.Point) api.Point { return by(p, to.X, to.Y) }
			holdAlike(t, f, f.each(move), move)
		}
	}
}

func TestNumberOfEnds(t *testing.T) {
	number := map[int]int{api.MeetNone: 0, api.MeetTouch: 1, api.MeetCross: 0, api.MeetOver: 2}
	r := rand.New(rand.NewSource(3))
	l := fours(grid(4))
	for range 20000 {
		l = append(l, anyFour(r))
	}
	for _, f := range l {
		if n, known := number[f.meets()]; !known || len(f.ends()) != n {
			t.Fatal(f, f.meets(), f.ends())
		}
	}
}

// P8.4

// holdDivided checks the theorem for the first segment of f and a point within it.
func holdDivided(t *testing.T, f four, p api.Point) {
	t.Helper()
	if cross.Meets(f.a, p, p, f.b) != api.MeetTouch || cross.Meets(f.a, p, f.a, f.b) != api.MeetOver || cross.Meets(p, f.b, f.a, f.b) != api.MeetOver {
		t.Fatal("parts", f.a, p, f.b)
	}
	one, two := cross.Meets(f.a, p, f.c, f.d), cross.Meets(p, f.b, f.c, f.d)
	if (f.meets() != api.MeetNone) != (one != api.MeetNone || two != api.MeetNone) {
		t.Fatal("whole", f, f.meets(), "but", p, one, two)
	}
	if f.meets() == api.MeetCross && one == api.MeetTouch && two != api.MeetTouch {
		t.Fatal("crossed at the point", f, p, one, two)
	}
}

func TestDivided(t *testing.T) {
	divided := 0
	for _, f := range fours(grid(4)) {
		for _, p := range grid(4) {
			if f.a != p && p != f.b && modelOn(p, f.a, f.b) {
				divided++
				holdDivided(t, f, p)
			}
		}
	}
	r := rand.New(rand.NewSource(4))
	for range 20000 {
		// The one between two points that are equally far from it in opposite directions.
		f, p := anyFour(r), at(r.Intn(1<<20), r.Intn(1<<20))
		half := 1 + r.Intn(most-1<<20)
		f.a, f.b = by(p, -half, -1), by(p, half, 1)
		holdDivided(t, f, p)
	}
	if divided < 10000 {
		t.Error("divided too few", divided)
	}
}
