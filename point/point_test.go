package point_test

import (
	"math"
	"math/big"
	"math/rand"
	"slices"
	"testing"

	"apportion/api"
	"apportion/point"
)

// most is the greatest coordinate.
const most = 1<<40 - 1

func at(x, y int) api.Point { return api.Point{X: x, Y: y} }

func box(left, low, right, high int) api.Box {
	return api.Box{Low: at(left, low), High: at(right, high)}
}

// edges are coordinates next to those where something changes.
func edges() []int {
	return []int{math.MinInt, math.MinInt + 1, -1 << 41, -most - 1, -most, -most + 1, -1, 0, 1, most - 1, most, most + 1, 1 << 41, math.MaxInt - 1, math.MaxInt}
}

// edgePoints are all points of those coordinates.
func edgePoints() []api.Point {
	var l []api.Point
	for _, x := range edges() {
		for _, y := range edges() {
			l = append(l, at(x, y))
		}
	}
	return l
}

// grid are the points from 0 0 to n-1 n-1.
func grid(n int) []api.Point {
	var l []api.Point
	for x := range n {
		for y := range n {
			l = append(l, at(x, y))
		}
	}
	return l
}

// anyPoint is a valid point, in many cases near to others or to the limit.
func anyPoint(r *rand.Rand) api.Point {
	one := func() int {
		switch r.Intn(4) {
		case 0:
			return r.Intn(7) - 3
		case 1:
			return most - r.Intn(3)
		case 2:
			return r.Intn(3) - most
		}
		return r.Intn(2*most+1) - most
	}
	return at(one(), one())
}

func validCoordinate(n int) bool {
	return new(big.Int).Abs(big.NewInt(int64(n))).Cmp(big.NewInt(most)) <= 0
}

func valid(l ...api.Point) bool {
	return !slices.ContainsFunc(l, func(p api.Point) bool { return !validCoordinate(p.X) || !validCoordinate(p.Y) })
}

// turn is the turn as the document defines it, in numbers of any size.
func turn(a, b, c api.Point) int {
	if !valid(a, b, c) {
		return 0
	}
	difference := func(m, n int) *big.Int { return new(big.Int).Sub(big.NewInt(int64(m)), big.NewInt(int64(n))) }
	left := new(big.Int).Mul(difference(b.X, a.X), difference(c.Y, a.Y))
	right := new(big.Int).Mul(difference(b.Y, a.Y), difference(c.X, a.X))
	return left.Cmp(right)
}

// on reports whether p is a + t * (b - a) for a t from 0 to 1: another definition than the document's.
func on(p, a, b api.Point) bool {
	if !valid(p, a, b) {
		return false
	}
	if a == b {
		return p == a
	}
	share := func(p, a, b int) *big.Rat { return big.NewRat(int64(p-a), int64(b-a)) }
	var t *big.Rat
	switch {
	case a.X == b.X:
		if p.X != a.X {
			return false
		}
		t = share(p.Y, a.Y, b.Y)
	case a.Y == b.Y:
		if p.Y != a.Y {
			return false
		}
		t = share(p.X, a.X, b.X)
	default:
		t = share(p.X, a.X, b.X)
		if t.Cmp(share(p.Y, a.Y, b.Y)) != 0 {
			return false
		}
	}
	return t.Sign() >= 0 && t.Cmp(big.NewRat(1, 1)) <= 0
}

// P7.1

func TestValid(t *testing.T) {
	for _, p := range edgePoints() {
		if got := point.Valid(p); got != valid(p) {
			t.Error(p, got)
		}
	}
	if !point.Valid(at(most, -most)) || !point.Valid(at(0, 0)) || point.Valid(at(0, most+1)) || point.Valid(at(-most-1, 0)) || point.Valid(at(0, math.MinInt)) || point.Valid(at(math.MinInt, 0)) {
		t.Error("limits")
	}
}

func TestCompare(t *testing.T) {
	for _, c := range []struct {
		a, b api.Point
		want int
	}{
		{at(9, 1), at(0, 2), -1},
		{at(0, 2), at(9, 1), 1},
		{at(1, 1), at(0, 1), 1},
		{at(0, 1), at(1, 1), -1},
		{at(1, 1), at(1, 1), 0},
		{at(math.MaxInt, math.MinInt), at(math.MinInt, math.MaxInt), -1},
		{at(math.MaxInt, 0), at(math.MinInt, 0), 1},
		{at(math.MinInt, math.MinInt), at(math.MinInt, math.MinInt), 0},
	} {
		if got := point.Compare(c.a, c.b); got != c.want {
			t.Error(c, got)
		}
	}
	for _, a := range edgePoints() {
		for _, b := range edgePoints() {
			want := 0
			switch {
			case a.Y < b.Y || a.Y == b.Y && a.X < b.X:
				want = -1
			case a != b:
				want = 1
			}
			if got := point.Compare(a, b); got != want {
				t.Fatal(a, b, got)
			}
		}
	}
}

func TestMove(t *testing.T) {
	for _, c := range []struct {
		p, by, want api.Point
		fault       api.Errno
	}{
		{at(1, 2), at(3, -4), at(4, -2), api.OK},
		{at(most, -most), at(0, 0), at(most, -most), api.OK},
		{at(most, -most), at(-most, most), at(0, 0), api.OK},
		{at(most, 0), at(1, 0), at(0, 0), api.ErrRange},
		{at(0, most), at(0, 1), at(0, 0), api.ErrRange},
		{at(-most, 0), at(-1, 5), at(0, 0), api.ErrRange},
		{at(0, -most), at(5, -1), at(0, 0), api.ErrRange},
		{at(most, most), at(most, most), at(0, 0), api.ErrRange},
		{at(most+1, 0), at(-1, 0), at(0, 0), api.ErrArg},
		{at(-1, 0), at(most+1, 0), at(0, 0), api.ErrArg},
		{at(0, -most-1), at(0, 1), at(0, 0), api.ErrArg},
		{at(0, 1), at(0, -most-1), at(0, 0), api.ErrArg},
		{at(math.MinInt, 0), at(math.MinInt, 0), at(0, 0), api.ErrArg},
		{at(most+1, 0), at(most, 0), at(0, 0), api.ErrArg},
	} {
		if got, e := point.Move(c.p, c.by); got != c.want || e != c.fault {
			t.Error(c, got, e)
		}
	}
	for _, p := range edgePoints() {
		for _, by := range edgePoints() {
			want, fault := at(p.X+by.X, p.Y+by.Y), api.OK
			if !valid(p, by) {
				want, fault = at(0, 0), api.ErrArg
			} else if !valid(want) {
				want, fault = at(0, 0), api.ErrRange
			}
			if got, e := point.Move(p, by); got != want || e != fault {
				t.Fatal(p, by, got, e)
			}
		}
	}
}

// P7.2

func TestTurn(t *testing.T) {
	for _, c := range []struct {
		a, b, c api.Point
		want    int
	}{
		{at(0, 0), at(4, 0), at(1, 1), 1},
		{at(0, 0), at(4, 0), at(1, -1), -1},
		{at(0, 0), at(4, 0), at(9, 0), 0},
		{at(0, 0), at(4, 0), at(-9, 0), 0},
		{at(0, 0), at(0, 4), at(-1, 9), 1},
		{at(0, 0), at(0, 4), at(1, -9), -1},
		{at(1, 1), at(1, 1), at(5, 5), 0},
		{at(1, 1), at(5, 7), at(1, 1), 0},
		{at(-most, -most), at(most, most), at(most, most-1), -1},
		{at(-most, -most), at(most, most), at(most-1, most), 1},
		{at(-most, -most), at(most, most-1), at(most-1, most-2), -1},
		{at(-most, most), at(most, -most), at(most, most), 1},
		{at(-most, most), at(most, -most), at(-most, -most), -1},
		{at(0, 0), at(4, 0), at(most+1, 1), 0},
		{at(0, 0), at(4, most+1), at(1, 1), 0},
		{at(-most-1, 0), at(4, 0), at(1, 1), 0},
		{at(0, 0), at(math.MinInt, 0), at(1, 1), 0},
	} {
		if got := point.Turn(c.a, c.b, c.c); got != c.want {
			t.Error(c, got)
		}
	}
}

func TestTurnAgainstBig(t *testing.T) {
	r := rand.New(rand.NewSource(1))
	all := edgePoints()
	pick := func() api.Point {
		if r.Intn(20) == 0 {
			return all[r.Intn(len(all))]
		}
		return anyPoint(r)
	}
	for range 50000 {
		a, b, c := pick(), pick(), pick()
		if got := point.Turn(a, b, c); got != turn(a, b, c) {
			t.Fatal(a, b, c, got)
		}
	}
}

func TestOn(t *testing.T) {
	for _, c := range []struct {
		p, a, b api.Point
		want    bool
	}{
		{at(2, 1), at(0, 0), at(4, 2), true},
		{at(3, 1), at(0, 0), at(4, 2), false},
		{at(6, 3), at(0, 0), at(4, 2), false},
		{at(-2, -1), at(0, 0), at(4, 2), false},
		{at(0, 0), at(0, 0), at(0, 0), true},
		{at(1, 0), at(0, 0), at(0, 0), false},
		{at(0, 0), at(0, 0), at(4, 2), true},
		{at(4, 2), at(0, 0), at(4, 2), true},
		{at(2, 0), at(4, 0), at(0, 0), true},
		{at(5, 0), at(4, 0), at(0, 0), false},
		{at(-1, 0), at(4, 0), at(0, 0), false},
		{at(0, 2), at(0, 4), at(0, 0), true},
		{at(0, 5), at(0, 4), at(0, 0), false},
		{at(0, -1), at(0, 4), at(0, 0), false},
		{at(0, 0), at(-most, -most), at(most, most), true},
		{at(most-1, most-1), at(-most, -most), at(most, most), true},
		{at(most-1, most-2), at(-most, -most), at(most, most), false},
		{at(most+1, 0), at(0, 0), at(most+2, 0), false},
		{at(1, 0), at(0, 0), at(most+1, 0), false},
		{at(1, 0), at(-most-1, 0), at(2, 0), false},
		{at(most+1, 0), at(most+1, 0), at(most+1, 0), false},
		{at(0, math.MinInt), at(0, math.MinInt), at(0, 0), false},
		{at(math.MaxInt, 5), at(0, 0), at(math.MaxInt, 9), false},
	} {
		if got := point.On(c.p, c.a, c.b); got != c.want {
			t.Error(c, got)
		}
	}
	l := append(grid(4), at(most, most), at(-most, most), at(0, most), at(most, 0), at(0, most+1), at(most+1, 0), at(math.MinInt, 0))
	for _, p := range l {
		for _, a := range l {
			for _, b := range l {
				if got := point.On(p, a, b); got != on(p, a, b) {
					t.Fatal(p, a, b, got)
				}
			}
		}
	}
}

// P7.3

func TestBounds(t *testing.T) {
	for _, c := range []struct {
		l    []api.Point
		want api.Box
		is   bool
	}{
		{[]api.Point{at(1, 2), at(5, 0)}, box(1, 0, 6, 3), true},
		{[]api.Point{at(5, 0), at(1, 2)}, box(1, 0, 6, 3), true},
		{[]api.Point{at(3, 3)}, box(3, 3, 4, 4), true},
		{[]api.Point{at(3, 3), at(3, 3)}, box(3, 3, 4, 4), true},
		{[]api.Point{at(-3, -3), at(-9, -4), at(-5, -1)}, box(-9, -4, -2, 0), true},
		{[]api.Point{at(2, 0), at(0, 1), at(1, 3), at(3, 2)}, box(0, 0, 4, 4), true},
		{[]api.Point{at(most, most), at(-most, -most)}, box(-most, -most, most+1, most+1), true},
		{nil, api.Box{}, false},
		{[]api.Point{}, api.Box{}, false},
		{[]api.Point{at(most+1, 0)}, api.Box{}, false},
		{[]api.Point{at(0, 0), at(1, 1), at(0, -most-1)}, api.Box{}, false},
		{[]api.Point{at(0, 0), at(math.MinInt, 1), at(0, 1)}, api.Box{}, false},
	} {
		given := slices.Clone(c.l)
		if got, is := point.Bounds(c.l); got != c.want || is != c.is || !slices.Equal(given, c.l) {
			t.Error(c, got, is)
		}
	}
}

func TestBoundsAreLeast(t *testing.T) {
	r := rand.New(rand.NewSource(2))
	for range 3000 {
		l := make([]api.Point, 1+r.Intn(6))
		for i := range l {
			l[i] = anyPoint(r)
		}
		x, is := point.Bounds(l)
		if !is {
			t.Fatal(l)
		}
		for _, less := range []api.Box{
			box(x.Low.X+1, x.Low.Y, x.High.X, x.High.Y), box(x.Low.X, x.Low.Y+1, x.High.X, x.High.Y),
			box(x.Low.X, x.Low.Y, x.High.X-1, x.High.Y), box(x.Low.X, x.Low.Y, x.High.X, x.High.Y-1),
		} {
			outside := func(p api.Point) bool { return !point.In(p, less) }
			if !slices.ContainsFunc(l, outside) {
				t.Fatal("not the least", l, x)
			}
		}
		for _, p := range l {
			if !point.In(p, x) {
				t.Fatal("outside", l, x)
			}
		}
	}
}

// TestBoundsHidden: what lies behind a list is not part of it.
func TestBoundsHidden(t *testing.T) {
	l := []api.Point{at(1, 1), at(2, 2), at(9, 9), at(most+1, 0)}
	if x, is := point.Bounds(l[:2]); x != box(1, 1, 3, 3) || !is {
		t.Error(x, is)
	}
	if x, is := point.Bounds(l[:0]); x != (api.Box{}) || is {
		t.Error(x, is)
	}
}

func TestIn(t *testing.T) {
	x := box(1, 0, 6, 3)
	for _, c := range []struct {
		p    api.Point
		want bool
	}{
		{at(5, 2), true}, {at(1, 0), true}, {at(1, 2), true}, {at(5, 0), true},
		{at(6, 2), false}, {at(5, 3), false}, {at(0, 1), false}, {at(3, -1), false}, {at(6, 3), false}, {at(math.MaxInt, 1), false}, {at(2, math.MinInt), false},
	} {
		if got := point.In(c.p, x); got != c.want {
			t.Error(c, got)
		}
	}
	if point.In(at(1, 1), box(1, 1, 1, 1)) || point.In(at(1, 1), box(3, 0, 0, 3)) || point.In(at(0, 0), api.Box{}) {
		t.Error("in a box of no points")
	}
	everything := box(math.MinInt, math.MinInt, math.MaxInt, math.MaxInt)
	if !point.In(at(math.MinInt, math.MaxInt-1), everything) || point.In(at(math.MaxInt, 0), everything) || point.In(at(0, math.MaxInt), everything) {
		t.Error("any numbers")
	}
}

func TestMeet(t *testing.T) {
	x := box(1, 0, 6, 3)
	for _, c := range []struct {
		x, y api.Box
		want bool
	}{
		{x, x, true},
		{x, box(6, 0, 9, 9), false},
		{x, box(5, 2, 9, 9), true},
		{x, box(5, 3, 9, 9), false},
		{x, box(2, 1, 3, 2), true},
		{x, box(2, 1, 2, 2), false},
		{x, box(2, 1, 3, 1), false},
		{x, box(3, 2, 2, 1), false},
		{box(2, 1, 2, 2), box(2, 1, 2, 2), false},
		{box(0, 0, 3, 3), box(3, 3, 6, 6), false},
		{box(0, 4, 9, 5), box(4, 0, 5, 9), true},
		{api.Box{}, api.Box{}, false},
		{box(math.MinInt, math.MinInt, math.MaxInt, math.MaxInt), box(math.MaxInt-1, math.MinInt, math.MaxInt, 0), true},
		{box(math.MinInt, math.MinInt, math.MaxInt, math.MaxInt), box(math.MaxInt, 0, math.MaxInt, 1), false},
		{box(math.MinInt, 0, math.MinInt+1, 1), box(math.MaxInt-1, 0, math.MaxInt, 1), false},
		{box(1<<50, 0, 1<<51, 1), box(1<<50, -1, 1<<50+1, 1), true},
	} {
		if point.Meet(c.x, c.y) != c.want || point.Meet(c.y, c.x) != c.want {
			t.Error(c)
		}
	}
}

// TestMeetByPoints holds Meet against the points of all small boxes, empty ones and reversed ones among them.
func TestMeetByPoints(t *testing.T) {
	var boxes []api.Box
	for _, low := range grid(4) {
		for _, high := range grid(4) {
			boxes = append(boxes, api.Box{Low: low, High: high})
		}
	}
	for _, x := range boxes {
		for _, y := range boxes {
			both := func(p api.Point) bool { return point.In(p, x) && point.In(p, y) }
			if point.Meet(x, y) != slices.ContainsFunc(grid(4), both) {
				t.Fatal(x, y)
			}
		}
	}
}

// P7.4

func TestTurnOfSixOrders(t *testing.T) {
	r := rand.New(rand.NewSource(3))
	for range 20000 {
		a, b, c := anyPoint(r), anyPoint(r), anyPoint(r)
		n := point.Turn(a, b, c)
		if point.Turn(b, c, a) != n || point.Turn(c, a, b) != n {
			t.Fatal("rotated", a, b, c)
		}
		if point.Turn(b, a, c) != -n || point.Turn(a, c, b) != -n || point.Turn(c, b, a) != -n {
			t.Fatal("exchanged", a, b, c)
		}
	}
}

func TestMovedAlike(t *testing.T) {
	r := rand.New(rand.NewSource(4))
	moves := 0
	for range 20000 {
		l := []api.Point{anyPoint(r), anyPoint(r), anyPoint(r)}
		by, m := anyPoint(r), make([]api.Point, 3)
		moved := true
		for i, p := range l {
			var e api.Errno
			m[i], e = point.Move(p, by)
			moved = moved && e == api.OK
		}
		if !moved {
			continue
		}
		moves++
		if point.Turn(m[0], m[1], m[2]) != point.Turn(l[0], l[1], l[2]) || point.On(m[0], m[1], m[2]) != point.On(l[0], l[1], l[2]) || point.Compare(m[0], m[1]) != point.Compare(l[0], l[1]) {
			t.Fatal(l, by)
		}
	}
	if moves < 1000 {
		t.Error("moved too few", moves)
	}
}

func TestOnBothWays(t *testing.T) {
	l := grid(5)
	for _, p := range l {
		for _, a := range l {
			for _, b := range l {
				if point.On(p, a, b) != point.On(p, b, a) {
					t.Fatal("direction", p, a, b)
				}
				one := point.On(p, a, b) || point.On(a, p, b) || point.On(b, p, a)
				if one != (point.Turn(p, a, b) == 0) {
					t.Fatal("three on one line", p, a, b)
				}
			}
		}
	}
}

// P7.5

func TestOrderIsTransitive(t *testing.T) {
	l := edgePoints()
	rand.New(rand.NewSource(5)).Shuffle(len(l), func(i, j int) { l[i], l[j] = l[j], l[i] })
	slices.SortFunc(l, point.Compare)
	for i, a := range l {
		for _, b := range l[i+1:] {
			if point.Compare(a, b) != -1 || point.Compare(b, a) != 1 {
				t.Fatal(a, b)
			}
		}
	}
	small := grid(4)
	for _, a := range small {
		for _, b := range small {
			for _, c := range small {
				if point.Compare(a, b) < 0 && point.Compare(b, c) < 0 && point.Compare(a, c) >= 0 {
					t.Fatal(a, b, c)
				}
			}
		}
	}
}
