package inside_test

import (
	"math"
	"math/big"
	"math/rand"
	"slices"
	"testing"

	"apportion/api"
	"apportion/inside"
	"apportion/point"
)

// most is the greatest coordinate.
const most = 1<<40 - 1

func at(x, y int) api.Point { return api.Point{X: x, Y: y} }

// points are those of the given coordinates, X and Y in turn.
func points(n ...int) []api.Point {
	var l []api.Point
	for i := 0; i < len(n); i += 2 {
		l = append(l, at(n[i], n[i+1]))
	}
	return l
}

func square() []api.Point { return points(0, 0, 4, 0, 4, 4, 0, 4) }

// field are all points with coordinates from low to high, both in.
func field(low, high int) []api.Point {
	var l []api.Point
	for x := low; x <= high; x++ {
		for y := low; y <= high; y++ {
			l = append(l, at(x, y))
		}
	}
	return l
}

// notValid are points beyond the limit, in one coordinate or in both.
func notValid() []api.Point {
	var l []api.Point
	for _, n := range []int{most + 1, -most - 1, 1 << 62, math.MaxInt, math.MinInt, math.MinInt + 1} {
		l = append(l, at(n, 0), at(0, n), at(n, n))
	}
	return l
}

// eachList calls do with each list of n points of some.
func eachList(some []api.Point, n int, do func(l []api.Point)) {
	var grow func(l []api.Point)
	grow = func(l []api.Point) {
		if len(l) == n {
			do(slices.Clone(l))
			return
		}
		for _, p := range some {
			grow(append(l, p))
		}
	}
	grow(nil)
}

// anyNumber is one from -reach to reach, in many cases near to others or to an end.
func anyNumber(r *rand.Rand, reach int) int {
	switch r.Intn(4) {
	case 0:
		return r.Intn(7) - 3
	case 1:
		return reach - r.Intn(3)
	case 2:
		return r.Intn(3) - reach
	}
	return r.Intn(2*reach+1) - reach
}

func anyPoint(r *rand.Rand, reach int) api.Point {
	return at(anyNumber(r, reach), anyNumber(r, reach))
}

func anyReach(r *rand.Rand) int { return []int{4, 30, 5000, 1 << 30, most}[r.Intn(5)] }

func anyList(r *rand.Rand, n, reach int) []api.Point {
	var l []api.Point
	for range n {
		l = append(l, anyPoint(r, reach))
	}
	return l
}

// near is a point of the height of one of l's edges, next to it or on it, or else a point of l; in a few cases any one.
func near(r *rand.Rand, l []api.Point, reach int) api.Point {
	if len(l) == 0 || r.Intn(8) == 0 {
		return anyPoint(r, reach)
	}
	i := r.Intn(len(l))
	a, b := l[i], l[(i+1)%len(l)]
	if !isValid(a) || !isValid(b) {
		return anyPoint(r, reach)
	}
	if a.Y == b.Y || r.Intn(4) == 0 {
		return at(clip(a.X+r.Intn(3)-1, reach), clip(a.Y+r.Intn(3)-1, reach))
	}
	y := min(a.Y, b.Y) + r.Intn(max(a.Y, b.Y)-min(a.Y, b.Y)+1)
	x := crossingAt(a, b, y)
	whole := new(big.Int).Div(x.Num(), x.Denom())
	return at(clip(int(whole.Int64())+r.Intn(4)-1, reach), y)
}

func clip(n, reach int) int { return max(-reach, min(n, reach)) }

func big64(n int) *big.Int { return big.NewInt(int64(n)) }

// crossingAt is the X at which the line through a and b, which is not level, has the given Y.
func crossingAt(a, b api.Point, y int) *big.Rat {
	part := new(big.Rat).SetFrac(new(big.Int).Sub(big64(y), big64(a.Y)), new(big.Int).Sub(big64(b.Y), big64(a.Y)))
	step := new(big.Rat).SetInt(new(big.Int).Sub(big64(b.X), big64(a.X)))
	return part.Mul(part, step).Add(part, new(big.Rat).SetInt(big64(a.X)))
}

func isValid(p api.Point) bool { return min(p.X, p.Y) >= -most && max(p.X, p.Y) <= most }

// modelCounts finds the edge's X at p's height, and looks whether p lies before it: without turns.
func modelCounts(p, a, b api.Point) bool {
	if !isValid(p) || !isValid(a) || !isValid(b) || p.Y < min(a.Y, b.Y) || p.Y >= max(a.Y, b.Y) {
		return false
	}
	return new(big.Rat).SetInt(big64(p.X)).Cmp(crossingAt(a, b, p.Y)) < 0
}

func modelCrossings(p api.Point, l []api.Point) int {
	n := 0
	for i := 1; i < len(l); i++ {
		if modelCounts(p, l[i-1], l[i]) {
			n++
		}
	}
	if len(l) > 1 && modelCounts(p, l[len(l)-1], l[0]) {
		n++
	}
	return n
}

// nudgedTurn is the turn of a, b, and a point that lies to the right of p by less than anything, and above that one by still less.
func nudgedTurn(a, b, p api.Point) int {
	wide, high := new(big.Int).Sub(big64(b.X), big64(a.X)), new(big.Int).Sub(big64(b.Y), big64(a.Y))
	left := new(big.Int).Mul(wide, new(big.Int).Sub(big64(p.Y), big64(a.Y)))
	right := new(big.Int).Mul(high, new(big.Int).Sub(big64(p.X), big64(a.X)))
	for _, n := range []int{left.Cmp(right), -high.Sign(), wide.Sign()} {
		if n != 0 {
			return n
		}
	}
	return 0
}

// modelIn divides a list of valid points into triangles, and tells whether an odd number of them contain p, moved such that it lies on no line: without rays, heights and edges that count.
func modelIn(p api.Point, l []api.Point) bool {
	odd := false
	for i := 2; i < len(l); i++ {
		first, second, third := nudgedTurn(l[0], l[i-1], p), nudgedTurn(l[i-1], l[i], p), nudgedTurn(l[i], l[0], p)
		if first != 0 && first == second && first == third {
			odd = !odd
		}
	}
	return odd
}

// hold checks all answers about a point and a list.
func hold(t *testing.T, p api.Point, l []api.Point) bool {
	t.Helper()
	n, in := inside.Crossings(p, l), inside.In(p, l)
	if want := modelCrossings(p, l); n != want || in != (want%2 == 1) {
		t.Fatal(p, l, "crossings", n, in, "not", want)
	}
	if !slices.ContainsFunc(l, func(q api.Point) bool { return !isValid(q) }) && isValid(p) && in != modelIn(p, l) {
		t.Fatal(p, l, "in", in)
	}
	return in
}

// P10.1

func TestCounts(t *testing.T) {
	for _, c := range []struct {
		p, a, b api.Point
		want    bool
	}{
		{at(0, 0), at(2, -1), at(2, 1), true},
		{at(0, 0), at(2, 1), at(2, -1), true},
		{at(0, 0), at(0, -1), at(0, 1), false},
		{at(0, 1), at(2, -1), at(2, 1), false},
		{at(0, -1), at(2, -1), at(2, 1), true},
		{at(0, 2), at(2, -1), at(2, 1), false},
		{at(0, -2), at(2, -1), at(2, 1), false},
		{at(1, 0), at(2, -1), at(2, 1), true},
		{at(2, 0), at(2, -1), at(2, 1), false},
		{at(3, 0), at(2, -1), at(2, 1), false},
		// The ends of the edge themselves.
		{at(2, -1), at(2, -1), at(2, 1), false},
		{at(2, 1), at(2, -1), at(2, 1), false},
		{at(1, -1), at(2, -1), at(2, 1), true},
		// Level edges, before, on and behind them, and edges of one point.
		{at(-1, 0), at(0, 0), at(5, 0), false},
		{at(2, 0), at(0, 0), at(5, 0), false},
		{at(2, -1), at(0, 0), at(5, 0), false},
		{at(9, 0), at(5, 0), at(0, 0), false},
		{at(-1, 0), at(0, 0), at(0, 0), false},
		{at(0, 0), at(0, 0), at(0, 0), false},
		// Edges that lean to the right and to the left.
		{at(1, 1), at(0, 0), at(3, 3), false},
		{at(0, 1), at(0, 0), at(3, 3), true},
		{at(2, 1), at(0, 0), at(3, 3), false},
		{at(1, 1), at(3, 0), at(0, 3), true},
		{at(2, 1), at(3, 0), at(0, 3), false},
		{at(2, 1), at(0, 3), at(3, 0), false},
		{at(1, 1), at(0, 3), at(3, 0), true},
		// As far apart as points are.
		{at(-most, -most), at(most, -most), at(most, most), true},
		{at(most-1, most-1), at(most, most), at(most, -most), true},
		{at(-most, most), at(most, -most), at(most, most), false},
		{at(0, 0), at(-most, -most), at(most, most), false},
		{at(-1, 0), at(-most, -most), at(most, most), true},
		{at(0, 0), at(-most, -most), at(most, most-1), true},
		{at(0, 0), at(most, most-1), at(-most, -most), true},
		{at(0, 0), at(-most, -most+1), at(most, most), false},
		{at(0, 0), at(-most, 1-most), at(most-1, most), false},
	} {
		if inside.Counts(c.p, c.a, c.b) != c.want || modelCounts(c.p, c.a, c.b) != c.want {
			t.Error(c)
		}
	}
}

func TestCountsOfNotValid(t *testing.T) {
	if !inside.Counts(at(-9, -9), at(0, -most), at(0, most)) {
		t.Error("valid")
	}
	for _, far := range notValid() {
		for _, p := range append(field(-1, 1), at(-9, -9)) {
			for _, q := range append(field(-1, 1), at(9, 9), at(9, -9), far) {
				for _, three := range [][3]api.Point{{far, p, q}, {p, far, q}, {p, q, far}, {far, far, q}, {far, p, far}, {p, far, far}} {
					if inside.Counts(three[0], three[1], three[2]) {
						t.Error(three)
					}
				}
			}
		}
	}
	// Those that would count, were it not for the limit.
	if inside.Counts(at(-most-1, 0), at(0, -1), at(0, 1)) || inside.Counts(at(0, 0), at(most+1, -1), at(1, 1)) || inside.Counts(at(0, 0), at(1, -1), at(1, most+1)) || inside.Counts(at(0, 0), at(1, -most-1), at(1, 1)) {
		t.Error("beyond the limit")
	}
}

func TestCountsAgainstModel(t *testing.T) {
	small, counted := field(-2, 2), 0
	for _, p := range field(-3, 3) {
		for _, a := range small {
			for _, b := range small {
				want := modelCounts(p, a, b)
				if inside.Counts(p, a, b) != want {
					t.Fatal(p, a, b, !want)
				}
				if want {
					counted++
				}
			}
		}
	}
	if counted < 3000 {
		t.Error("too few", counted)
	}
}

func TestCountsOfAnySize(t *testing.T) {
	r := rand.New(rand.NewSource(1))
	found := map[bool]int{}
	for range 100000 {
		reach := anyReach(r)
		l := anyList(r, 2, reach)
		p := near(r, l, reach)
		want := modelCounts(p, l[0], l[1])
		if inside.Counts(p, l[0], l[1]) != want {
			t.Fatal(p, l, !want)
		}
		found[want]++
	}
	if found[true] < 20000 || found[false] < 20000 {
		t.Error("too few", found)
	}
}

func TestIn(t *testing.T) {
	s := square()
	for _, p := range points(1, 1, 0, 0, 0, 2, 2, 0, 3, 3, 3, 0, 0, 3) {
		if !hold(t, p, s) {
			t.Error(p, "not in")
		}
	}
	for _, p := range points(4, 2, 2, 4, 4, 4, 5, 1, 0, 4, 4, 0, -1, 1, -1, 0, 1, -1, -1, 4, 1, 5, 9, 9, -9, -9) {
		if hold(t, p, s) {
			t.Error(p, "in")
		}
	}
}

func TestCrossings(t *testing.T) {
	u := points(2, 0, 2, 2, 4, 2, 4, 0)
	zigzag := points(1, 0, 3, 2, 1, 4, 3, 6, 9, 6, 9, 0)
	twice := append(square(), square()...)
	for _, c := range []struct {
		p api.Point
		l []api.Point
		n int
	}{
		{at(0, 1), u, 2}, {at(2, 1), u, 1}, {at(3, 1), u, 1}, {at(4, 1), u, 0}, {at(0, 2), u, 0}, {at(0, 0), u, 2},
		// A point where two edges meet counts for one of them, for both or for none.
		{at(0, 2), zigzag, 2}, {at(0, 4), zigzag, 2}, {at(3, 2), zigzag, 1}, {at(0, 6), zigzag, 0}, {at(0, 0), zigzag, 2},
		{at(0, 1), points(1, 1, 5, 5, 9, 1), 2}, {at(0, 5), points(1, 1, 5, 5, 9, 1), 0},
		{at(-1, 0), points(0, 0, 2, 1, 4, 0, 4, 4, 0, 4), 4}, {at(1, 0), points(0, 0, 2, 1, 4, 0, 4, 4, 0, 4), 2}, {at(2, 0), points(0, 0, 2, 1, 4, 0, 4, 4, 0, 4), 2},
		// Lists that are no rings: each edge counts for itself, as often as it stands there.
		{at(1, 1), twice, 2}, {at(-1, 1), twice, 4}, {at(1, 1), append(twice, square()...), 3},
		{at(0, 0), points(1, -1, 1, 1), 2}, {at(0, 1), points(1, -1, 1, 1), 0}, {at(2, 0), points(1, -1, 1, 1), 0},
		{at(0, 0), points(1, 0), 0}, {at(0, 0), points(0, 0), 0}, {at(0, 0), nil, 0}, {at(0, 0), []api.Point{}, 0},
		{at(0, 1), points(0, 0, 4, 4, 4, 0, 0, 4), 3}, {at(1, 2), points(0, 0, 4, 4, 4, 0, 0, 4), 3}, {at(2, 1), points(0, 0, 4, 4, 4, 0, 0, 4), 2}, {at(3, 2), points(0, 0, 4, 4, 4, 0, 0, 4), 1},
		{at(3, 3), points(0, 0, 2, 2, 4, 0, 4, 4), 1},
	} {
		if n := inside.Crossings(c.p, c.l); n != c.n {
			t.Error(c.p, c.l, n, "not", c.n)
		}
		hold(t, c.p, c.l)
	}
}

// TestEdgesOfNotValid: an edge counts for nothing if one of its ends is not valid; the others count still.
func TestEdgesOfNotValid(t *testing.T) {
	for _, far := range notValid() {
		for i := range 4 {
			l := square()
			l[i] = far
			for _, p := range append(field(-1, 5), far) {
				hold(t, p, l)
			}
		}
		for _, l := range [][]api.Point{{far}, {far, far, far}, {at(0, 0), far}, {far, at(0, 0), at(4, 4)}} {
			for _, p := range append(field(-1, 5), far) {
				hold(t, p, l)
			}
		}
		if inside.In(far, square()) || inside.Crossings(far, square()) != 0 {
			t.Error(far)
		}
	}
	if l := points(4, 0, 4, 4, 0, most+1); inside.Crossings(at(0, 1), l) != 1 || !inside.In(at(-9, 1), l) || inside.In(at(4, 1), l) {
		t.Error("one edge")
	}
	if l := points(0, 0, 2, 0, 2, 4, 3, most+1, 5, 0, 5, 4); inside.Crossings(at(1, 1), l) != 3 || !inside.In(at(1, 1), l) {
		t.Error("three edges")
	}
}

func TestAgainstModelOnField(t *testing.T) {
	some := append(field(0, 2), at(most+1, 1))
	around := append(field(-1, 3), at(-most-1, 1))
	found := map[bool]int{}
	for n := range 5 {
		eachList(some, n, func(l []api.Point) {
			for _, p := range around {
				if n < 4 || p.X >= 0 && p.X < 3 {
					found[hold(t, p, l)]++
				}
			}
		})
	}
	if found[true] < 5000 || found[false] < 5000 {
		t.Error("too few", found)
	}
}

func TestAgainstModelOfAnySize(t *testing.T) {
	r := rand.New(rand.NewSource(2))
	found := map[bool]int{}
	for range 8000 {
		reach := anyReach(r)
		l := anyList(r, r.Intn(14), reach)
		for range 3 {
			found[hold(t, near(r, l, reach), l)]++
		}
	}
	if found[true] < 3000 || found[false] < 3000 {
		t.Error("too few", found)
	}
	for range 20 {
		l := anyList(r, 150+r.Intn(200), most)
		hold(t, near(r, l, most), l)
	}
}

// TestManyPoints: a list may be as long as it likes.
func TestManyPoints(t *testing.T) {
	for _, n := range []int{199, 200, 201, 401, 1<<20 - 1, 1 << 20} {
		l := make([]api.Point, n)
		for i := range l {
			l[i] = at(i, i%2)
		}
		// Each edge but a level one goes up or down, from 0 to 1 or back; the last one is level if the number is odd.
		if k, in := inside.Crossings(at(-1, 0), l), inside.In(at(-1, 0), l); k != n-n%2 || in {
			t.Error(n, k, in)
		}
		// The point lies on the first edge, and on the last one.
		if k, in := inside.Crossings(at(0, 0), l), inside.In(at(0, 0), l); k != n-2 || in != (n%2 == 1) {
			t.Error(n, k, in)
		}
	}
}

// P10.2

func holdAround(t *testing.T, p api.Point, l []api.Point) {
	t.Helper()
	n, in := inside.Crossings(p, l), inside.In(p, l)
	back := slices.Clone(l)
	slices.Reverse(back)
	for i := range l {
		for _, other := range [][]api.Point{slices.Concat(l[i:], l[:i]), slices.Concat(back[i:], back[:i])} {
			if inside.Crossings(p, other) != n || inside.In(p, other) != in {
				t.Fatal(p, l, other)
			}
		}
	}
}

func TestBeginningAndDirection(t *testing.T) {
	eachList(field(0, 2), 4, func(l []api.Point) {
		for _, p := range field(0, 2) {
			holdAround(t, p, l)
		}
	})
	r := rand.New(rand.NewSource(3))
	for range 3000 {
		reach := anyReach(r)
		l := anyList(r, 1+r.Intn(9), reach)
		if r.Intn(4) == 0 {
			l[r.Intn(len(l))] = notValid()[r.Intn(len(notValid()))]
		}
		holdAround(t, near(r, l, reach), l)
	}
}

func TestMovedAlike(t *testing.T) {
	r := rand.New(rand.NewSource(4))
	moves, in := 0, 0
	for range 20000 {
		reach := anyReach(r)
		l := anyList(r, 2+r.Intn(6), reach)
		p := near(r, l, reach)
		by := anyPoint(r, most)
		if r.Intn(2) == 0 { // just to the limit
			by = at(most-reach, reach-most)
		}
		moved := make([]api.Point, len(l))
		e, good := api.OK, true
		for i := range l {
			moved[i], e = point.Move(l[i], by)
			good = good && e == api.OK
		}
		q, e := point.Move(p, by)
		if !good || e != api.OK {
			continue
		}
		moves++
		if inside.Crossings(q, moved) != inside.Crossings(p, l) || inside.In(q, moved) != inside.In(p, l) {
			t.Fatal(p, l, by)
		}
		if inside.In(q, moved) {
			in++
		}
	}
	if moves < 5000 || in < 1000 {
		t.Error("too few", moves, in)
	}
}

// P10.3

// holdPaths holds three ways from a point to another one against each other: each two of them are a list, and two such lists have the third way in common, in opposite directions.
func holdPaths(t *testing.T, p, from, to api.Point, first, second, third []api.Point) (bool, bool) {
	t.Helper()
	list := func(there, back []api.Point) []api.Point {
		turned := slices.Clone(back)
		slices.Reverse(turned)
		return slices.Concat([]api.Point{from}, there, []api.Point{to}, turned)
	}
	one, other, whole := inside.In(p, list(first, second)), inside.In(p, list(second, third)), inside.In(p, list(first, third))
	if (one != other) != whole {
		t.Fatal(p, from, to, first, second, third, one, other, whole)
	}
	return one, other
}

func TestListsWithCommonPart(t *testing.T) {
	r := rand.New(rand.NewSource(5))
	found := map[[2]bool]int{}
	for range 30000 {
		reach := anyReach(r)
		from, to := anyPoint(r, reach), anyPoint(r, reach)
		first, second, third := anyList(r, r.Intn(5), reach), anyList(r, r.Intn(5), reach), anyList(r, r.Intn(5), reach)
		if len(second) > 0 && r.Intn(8) == 0 {
			second[0] = notValid()[r.Intn(len(notValid()))]
		}
		p := near(r, slices.Concat([]api.Point{from}, second, []api.Point{to}), reach)
		one, other := holdPaths(t, p, from, to, first, second, third)
		found[[2]bool{one, other}]++
	}
	for _, one := range []bool{false, true} {
		for _, other := range []bool{false, true} {
			if found[[2]bool{one, other}] < 1000 {
				t.Error("too few", found)
			}
		}
	}
}

// TestCrookedBorder: a box that a crooked line divides: each of its points, also those of the line, is in exactly one part, and no other point is in any.
func TestCrookedBorder(t *testing.T) {
	r := rand.New(rand.NewSource(6))
	const side = 12
	for range 300 {
		low, high := at(1+r.Intn(side-1), 0), at(1+r.Intn(side-1), side)
		var border []api.Point
		for range r.Intn(8) {
			border = append(border, at(r.Intn(side+1), r.Intn(side+1)))
		}
		left, right := points(0, 0, 0, side), points(side, 0, side, side)
		for _, p := range field(-1, side+1) {
			one, other := holdPaths(t, p, low, high, left, border, right)
			within := p.X >= 0 && p.X < side && p.Y >= 0 && p.Y < side
			if (one != other) != within {
				t.Fatal(p, border, one, other)
			}
		}
	}
}

// triangles divides a box into triangles that lie side by side.
func triangles(r *rand.Rand, side, n int) [][]api.Point {
	parts := [][]api.Point{points(0, 0, side, 0, side, side), points(0, 0, side, side, 0, side)}
	for range n {
		i := r.Intn(len(parts))
		a, b, c, p := parts[i][0], parts[i][1], parts[i][2], at(r.Intn(side), r.Intn(side))
		if point.Turn(a, b, p) == 1 && point.Turn(b, c, p) == 1 && point.Turn(c, a, p) == 1 {
			parts[i] = []api.Point{a, b, p}
			parts = append(parts, []api.Point{b, c, p}, []api.Point{p, c, a})
		}
	}
	return parts
}

func TestSideBySide(t *testing.T) {
	r := rand.New(rand.NewSource(7))
	const side = 16
	for range 60 {
		parts := triangles(r, side, 200)
		if len(parts) < 8 {
			t.Fatal("too few", parts)
		}
		for _, p := range field(-1, side+1) {
			n := 0
			for _, l := range parts {
				if hold(t, p, l) {
					n++
				}
			}
			within := p.X >= 0 && p.X < side && p.Y >= 0 && p.Y < side
			if within && n != 1 || !within && n != 0 {
				t.Fatal(p, parts, n)
			}
		}
	}
}

// P10.4

func ringOf(x api.Box) []api.Point {
	return []api.Point{x.Low, at(x.High.X, x.Low.Y), x.High, at(x.Low.X, x.High.Y)}
}

func TestBoxes(t *testing.T) {
	for _, low := range field(0, 3) {
		for _, high := range field(0, 3) {
			if low.X >= high.X || low.Y >= high.Y {
				continue
			}
			x := api.Box{Low: low, High: high}
			for _, p := range field(-1, 4) {
				if hold(t, p, ringOf(x)) != point.In(p, x) {
					t.Error(p, x)
				}
			}
		}
	}
	x := api.Box{Low: at(-most, -most), High: at(most, most)}
	for _, p := range []api.Point{x.Low, x.High, at(most-1, most-1), at(-most, most-1), at(-most, most), at(most, -most), at(most-1, -most), at(0, 0), at(-most-1, 0), at(0, -most-1)} {
		if hold(t, p, ringOf(x)) != point.In(p, x) {
			t.Error(p)
		}
	}
}

func TestBoxesOfAnySize(t *testing.T) {
	r := rand.New(rand.NewSource(8))
	found := map[bool]int{}
	for range 20000 {
		reach := anyReach(r)
		x, _ := point.Bounds(anyList(r, 2, reach-1))
		p := near(r, ringOf(x), reach)
		in := inside.In(p, ringOf(x))
		if in != point.In(p, x) {
			t.Fatal(p, x)
		}
		found[in]++
	}
	if found[true] < 2000 || found[false] < 2000 {
		t.Error("too few", found)
	}
}

func TestOutsideBounds(t *testing.T) {
	r := rand.New(rand.NewSource(9))
	outside, before := 0, 0
	for range 20000 {
		reach := anyReach(r)
		l := anyList(r, 1+r.Intn(7), reach/2)
		x, _ := point.Bounds(l)
		for _, p := range []api.Point{
			anyPoint(r, reach), at(x.Low.X-1, x.Low.Y+r.Intn(x.High.Y-x.Low.Y)), at(x.High.X, x.Low.Y+r.Intn(x.High.Y-x.Low.Y)),
			at(x.Low.X+r.Intn(x.High.X-x.Low.X), x.Low.Y-1), at(x.Low.X+r.Intn(x.High.X-x.Low.X), x.High.Y),
			// The upper and the right side of the points themselves.
			at(x.Low.X+r.Intn(x.High.X-x.Low.X), x.High.Y-1), at(x.High.X-1, x.Low.Y+r.Intn(x.High.Y-x.Low.Y)),
		} {
			if point.In(p, api.Box{Low: x.Low, High: at(x.High.X-1, x.High.Y-1)}) {
				continue
			}
			outside++
			if inside.In(p, l) {
				t.Fatal(p, l)
			}
			if inside.Crossings(p, l) > 0 {
				before++
			}
		}
	}
	if outside < 50000 || before < 10000 {
		t.Error("too few", outside, before)
	}
}

// TestArguments: no list is changed, and what lies behind it is not a part of it.
func TestArguments(t *testing.T) {
	spare := append(square(), points(2, 2, 9, 9, 1, 3)...)
	kept := slices.Clone(spare)
	for n := range spare {
		for _, p := range field(-1, 5) {
			if inside.Crossings(p, spare[:n]) != modelCrossings(p, kept[:n]) || inside.In(p, spare[:n]) != modelIn(p, kept[:n]) {
				t.Error(p, n)
			}
		}
	}
	if !slices.Equal(spare, kept) {
		t.Error(spare)
	}
}
