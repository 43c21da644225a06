package ring_test

import (
	"math"
	"math/big"
	"math/rand"
	"slices"
	"testing"

	"apportion/api"
	"apportion/ring"
)

// most is the greatest coordinate.
const most = 1<<40 - 1

func at(x, y int) api.Point { return api.Point{X: x, Y: y} }

// points are those of the given coordinates, X and Y in turn.
func points(n ...int) []api.Point {
	var l []api.Point
	for i := 0; i < len(n); i += 2 {
		l = append(l, at(n[i], n[i+1]))
	}
	return l
}

func square() []api.Point { return points(0, 0, 4, 0, 4, 4, 0, 4) }

func none() api.Fault { return api.Fault{} }

func fault(e api.Errno, i int) api.Fault { return api.Fault{Err: e, At: i} }

// grid are the points from 0 0 to n-1 n-1.
func grid(n int) []api.Point {
	var l []api.Point
	for x := range n {
		for y := range n {
			l = append(l, at(x, y))
		}
	}
	return l
}

// eachList calls do with each list of n points of some.
func eachList(some []api.Point, n int, do func(l []api.Point)) {
	var grow func(l []api.Point)
	grow = func(l []api.Point) {
		if len(l) == n {
			do(slices.Clone(l))
			return
		}
		for _, p := range some {
			grow(append(l, p))
		}
	}
	grow(nil)
}

// comb is a valid ring of n points: one tooth beside the other above 0, and a way back below it.
func comb(n int) []api.Point {
	l := points(n, -1, 0, -2)
	for i := range n - 2 {
		l = append(l, at(i+1, 1+i%2*1000))
	}
	return l
}

// star is a ring of n points around a middle, each in another direction from it, and none of two successive ones half a turn apart.
func star(r *rand.Rand, n int, middle api.Point, wide int) []api.Point {
	l := points(wide, 1, 0, wide, -wide, -1, 0, -wide)[:min(n, 4)]
	if n == 3 {
		l = points(wide, 0, -wide, wide, -wide, -wide)
	}
	for len(l) < n {
		p := at(r.Intn(2*wide+1)-wide, r.Intn(2*wide+1)-wide)
		if p != at(0, 0) && !slices.ContainsFunc(l, func(q api.Point) bool { return compareDirections(p, q) == 0 }) {
			l = append(l, p)
		}
	}
	slices.SortFunc(l, compareDirections)
	for i, p := range l {
		l[i] = at(p.X+middle.X, p.Y+middle.Y)
	}
	return l
}

// compareDirections orders points by their direction from 0 0, leftwards from the right.
func compareDirections(p, q api.Point) int {
	upper := func(p api.Point) bool { return p.Y > 0 || p.Y == 0 && p.X > 0 }
	switch {
	case upper(p) && !upper(q):
		return -1
	case !upper(p) && upper(q):
		return 1
	}
	return -product(at(0, 0), p, at(0, 0), q).Sign()
}

// anyStar is a star of any size, anywhere, in either direction, with any beginning.
func anyStar(r *rand.Rand, n int) []api.Point {
	reach := []int{40, 10000, 1 << 20, most / 2, most}[r.Intn(5)]
	room := most - reach
	l := star(r, n, at(r.Intn(2*room+1)-room, r.Intn(2*room+1)-room), reach)
	i := r.Intn(n)
	l = slices.Concat(l[i:], l[:i])
	if r.Intn(2) == 0 {
		slices.Reverse(l)
	}
	return l
}

// spoil changes a list, such that in many cases it is no ring any more.
func spoil(r *rand.Rand, l []api.Point) []api.Point {
	i, j := r.Intn(len(l)), r.Intn(len(l))
	p, q := l[i], l[j]
	switch r.Intn(7) {
	case 0:
		l[i], l[j] = q, p
	case 1:
		l[i] = q
	case 2:
		l[i] = at(p.X, []int{most + 1, -most - 1, math.MaxInt, math.MinInt}[r.Intn(4)])
	case 3:
		l[i] = at([]int{most + 1, -most - 1, math.MaxInt, math.MinInt}[r.Intn(4)], p.Y)
	case 4: // halfway between two points
		l = slices.Insert(l, r.Intn(len(l)+1), at((p.X+q.X)/2, (p.Y+q.Y)/2))
	case 5: // back over the edge ahead, and beyond it
		next := l[(j+1)%len(l)]
		l[(j+2)%len(l)] = at(2*q.X-next.X, 2*q.Y-next.Y)
	case 6: // there and back
		l = slices.Insert(l, j, at(p.X, p.Y+1), at(p.X, p.Y+2), at(p.X, p.Y+1))
	}
	return l
}

// product is (b - a) x (d - c), in numbers of any size.
func product(a, b, c, d api.Point) *big.Int {
	left, right := new(big.Int), new(big.Int)
	left.Mul(difference(b.X, a.X), difference(d.Y, c.Y))
	right.Mul(difference(b.Y, a.Y), difference(d.X, c.X))
	return left.Sub(left, right)
}

func difference(m, n int) *big.Int {
	return new(big.Int).Sub(big.NewInt(int64(m)), big.NewInt(int64(n)))
}

// modelMeet reports whether some point is on both segments, by solving a + s (b - a) = c + t (d - c).
func modelMeet(a, b, c, d api.Point) bool {
	whole := product(a, b, c, d)
	if whole.Sign() == 0 {
		overlap := func(a, b, c, d int) bool { return max(min(a, b), min(c, d)) <= min(max(a, b), max(c, d)) }
		return product(a, b, a, c).Sign() == 0 && overlap(a.X, b.X, c.X, d.X) && overlap(a.Y, b.Y, c.Y, d.Y)
	}
	// Each of s and t is a part of whole, which has a sign.
	within := func(part *big.Int) bool { return part.Sign()*whole.Sign() >= 0 && part.CmpAbs(whole) <= 0 }
	return within(product(a, c, c, d)) && within(product(a, c, a, b))
}

// modelBack reports whether both neighbours of p, which are not p, lie in the same direction from it.
func modelBack(before, p, after api.Point) bool {
	same := func(m, n int) bool { return m < 0 && n < 0 || m == 0 && n == 0 || m > 0 && n > 0 }
	return product(p, before, p, after).Sign() == 0 && same(before.X-p.X, after.X-p.X) && same(before.Y-p.Y, after.Y-p.Y)
}

// modelCheck looks for the faults as the document tells them, each with its own words.
func modelCheck(l []api.Point) api.Fault {
	n := len(l)
	if n > 200 {
		return fault(api.ErrLong, 0)
	}
	if n < 3 {
		return fault(api.ErrFew, 0)
	}
	for i, p := range l {
		if p.X < -most || p.X > most || p.Y < -most || p.Y > most {
			return fault(api.ErrArg, i)
		}
	}
	seen := map[api.Point]struct{}{}
	for i, p := range l {
		if _, twice := seen[p]; twice {
			return fault(api.ErrTwice, i)
		}
		seen[p] = struct{}{}
	}
	for i, p := range l {
		if modelBack(l[(i+n-1)%n], p, l[(i+1)%n]) {
			return fault(api.ErrBack, i)
		}
	}
	for i := range n {
		for j := i + 2; j < n; j++ {
			if !(i == 0 && j == n-1) && modelMeet(l[i], l[i+1], l[j], l[(j+1)%n]) {
				return fault(api.ErrMeet, i)
			}
		}
	}
	return none()
}

// modelSign is the sign of the area within a valid ring, which is less than 0 if it goes to the right.
func modelSign(l []api.Point) int {
	if modelCheck(l) != none() {
		return 0
	}
	area := new(big.Int)
	for i, p := range l {
		area.Add(area, product(l[0], p, l[0], l[(i+1)%len(l)]))
	}
	return area.Sign()
}

// around are all lists of the same points in the same order around the list, in both directions.
func around(l []api.Point) [][]api.Point {
	back := slices.Clone(l)
	slices.Reverse(back)
	var all [][]api.Point
	for i := range l {
		all = append(all, slices.Concat(l[i:], l[:i]), slices.Concat(back[i:], back[:i]))
	}
	return all
}

func modelSame(a, b []api.Point) bool {
	return modelCheck(a) == none() && modelCheck(b) == none() && slices.ContainsFunc(around(a), func(l []api.Point) bool { return slices.Equal(l, b) })
}

// modelNormal looks among all rings that are the same for the one that is asked for.
func modelNormal(l []api.Point) ([]api.Point, bool) {
	if modelCheck(l) != none() {
		return nil, false
	}
	for _, other := range around(l) {
		first := !slices.ContainsFunc(l, func(p api.Point) bool {
			return p.Y < other[0].Y || p.Y == other[0].Y && p.X < other[0].X
		})
		if first && modelSign(other) == 1 {
			return other, true
		}
	}
	return nil, true
}

// holdAgainstModel checks all answers about one list.
func holdAgainstModel(t *testing.T, l []api.Point) api.Fault {
	t.Helper()
	f := ring.Check(l)
	if f != modelCheck(l) {
		t.Fatal(l, "fault", f, "not", modelCheck(l))
	}
	if n := ring.Sign(l); n != modelSign(l) {
		t.Fatal(l, "sign", n, "not", modelSign(l))
	}
	normal, is := ring.Normal(l)
	if m, valid := modelNormal(l); is != valid || !slices.Equal(normal, m) || !is && normal != nil {
		t.Fatal(l, "normal", normal, is, "not", m, valid)
	}
	if ring.Same(l, l) != (f == none()) {
		t.Fatal(l, "same as itself")
	}
	return f
}

// P9.1

func TestCheck(t *testing.T) {
	for _, c := range []struct {
		l []api.Point
		f api.Fault
	}{
		{square(), none()},
		{points(0, 0, 4, 4, 4, 0, 0, 4), fault(api.ErrMeet, 0)},
		{points(0, 0, 4, 0, 2, 0, 0, 4), fault(api.ErrBack, 1)},
		{points(0, 0, 4, 0, 0, 0, 0, 4), fault(api.ErrTwice, 2)},
		{points(0, 0, 4, 0), fault(api.ErrFew, 0)},
		{points(0, 0, 2, 0, 4, 0, 4, 4), none()},
		{points(0, 0, 4, 0, 9, 0), fault(api.ErrBack, 0)},
		{nil, fault(api.ErrFew, 0)},
		{[]api.Point{}, fault(api.ErrFew, 0)},
		{points(0, 0), fault(api.ErrFew, 0)},
		{points(0, 0, 1, 0, 0, 1), none()},
		{points(4, 0, 9, 0, 0, 0), fault(api.ErrBack, 1)},
		{points(4, 0, 0, 0, 4, 4, 4, 2), none()},
		{points(4, 0, 0, 0, 4, 4, 4, 6), fault(api.ErrBack, 3)},
		// An end of an edge on another edge, the first edge and the last one but one, edges that are over one another.
		{points(0, 0, 4, 0, 4, 4, 2, 0, 0, 4), fault(api.ErrMeet, 0)},
		{points(0, 4, 0, 0, 4, 0, 4, 4, 2, 0), fault(api.ErrMeet, 1)},
		{points(0, 0, 4, 0, 4, 4, 2, -1), fault(api.ErrMeet, 0)},
		{points(4, 4, 2, -1, 0, 0, 4, 0), fault(api.ErrMeet, 0)},
		{points(2, -1, 0, 0, 4, 0, 4, 4), fault(api.ErrMeet, 1)},
		{points(0, 0, 9, 0, 9, 5, 6, 5, 6, 0, 3, 0, 3, 5, 0, 5), fault(api.ErrMeet, 0)},
		// A ring whose first edge meets another one, and the same ring from elsewhere: the first point counts.
		{points(0, 0, 9, 9, 9, 0, 0, 9, -9, 9, -9, 0), fault(api.ErrMeet, 0)},
		{points(-9, 0, 0, 0, 9, 9, 9, 0, 0, 9, -9, 9), fault(api.ErrMeet, 1)},
	} {
		if f := ring.Check(c.l); f != c.f {
			t.Error(c.l, f, "not", c.f)
		}
		holdAgainstModel(t, c.l)
	}
}

// TestFirstFault: of two faults the one counts whose kind comes first, wherever it is; of one kind, the first.
func TestFirstFault(t *testing.T) {
	far := most + 1
	for _, c := range []struct {
		l []api.Point
		f api.Fault
	}{
		{points(far, 0), fault(api.ErrFew, 0)},
		{points(5, 5, 5, 5), fault(api.ErrFew, 0)},
		{points(0, 0, 0, 0, far, 0), fault(api.ErrArg, 2)},
		{points(0, 0, far, 0, far, 0), fault(api.ErrArg, 1)},
		{points(far, 0, far, 0, far, 0), fault(api.ErrArg, 0)},
		{points(0, 0, 4, 0, 2, 0, 4, 4, 9, 9, 4, 4), fault(api.ErrTwice, 5)},
		{points(0, 0, 4, 4, 4, 0, 0, 4, 0, 0, 4, 4), fault(api.ErrTwice, 4)},
		{points(1, 1, 1, 1, 1, 1), fault(api.ErrTwice, 1)},
		{points(0, 0, 4, 4, 4, 0, 0, 4, -4, 4, -9, 4, -5, 4), fault(api.ErrBack, 5)},
		{points(0, 0, 4, 0, 2, 0, 2, 9, 2, 5, 0, 5), fault(api.ErrBack, 1)},
		{points(0, 0, 4, 0, 1, 0, 5, 0), fault(api.ErrBack, 0)},
	} {
		if f := ring.Check(c.l); f != c.f {
			t.Error(c.l, f, "not", c.f)
		}
	}
}

func TestNotValidAnywhere(t *testing.T) {
	for _, n := range []int{most + 1, -most - 1, 1 << 41, -1 << 41, math.MaxInt, math.MinInt, math.MinInt + 1} {
		for i := range square() {
			for _, p := range []api.Point{at(n, 0), at(0, n), at(n, n)} {
				l := square()
				l[i] = p
				if holdAgainstModel(t, l) != fault(api.ErrArg, i) {
					t.Error(l, ring.Check(l))
				}
				if ring.Same(l, l) || ring.Same(l, square()) || ring.Same(square(), l) {
					t.Error("same", l)
				}
			}
		}
	}
}

func TestLengths(t *testing.T) {
	for n := 4; n <= 200; n++ {
		if f := ring.Check(comb(n)); f != none() {
			t.Error(n, f)
		}
	}
	if f := holdAgainstModel(t, comb(200)); f != none() {
		t.Error(f)
	}
	for _, l := range [][]api.Point{comb(201), comb(1000), make([]api.Point, 201), append(comb(200), at(most+1, 0))} {
		if f := holdAgainstModel(t, l); f != fault(api.ErrLong, 0) {
			t.Error(len(l), f)
		}
	}
	// The last edge but one meets the first one.
	l := comb(200)
	l[199] = at(199, -1000)
	if f := holdAgainstModel(t, l); f != fault(api.ErrMeet, 0) {
		t.Error(f)
	}
	l = comb(200)
	l[199] = l[198]
	if f := holdAgainstModel(t, l); f != fault(api.ErrTwice, 199) {
		t.Error(f)
	}
}

// TestMuchTooLong: a list that is too long is not looked at point by point, let alone edge by edge.
func TestMuchTooLong(t *testing.T) {
	l := make([]api.Point, 1<<22)
	for i := range l {
		l[i] = at(i, i%2)
	}
	if f := ring.Check(l); f != fault(api.ErrLong, 0) || ring.Sign(l) != 0 || ring.Same(l, l) {
		t.Error(f)
	}
	if turned := ring.Turned(l); len(turned) != len(l) || turned[0] != l[len(l)-1] {
		t.Error("turned")
	}
	if from := ring.From(l, 1<<22+5); len(from) != len(l) || from[0] != l[5] || from[len(l)-1] != l[4] {
		t.Error("from")
	}
}

func TestAgainstModelOnGrid(t *testing.T) {
	found := map[api.Errno]int{}
	some := append(grid(3), at(most+1, 1))
	for n := range 5 {
		eachList(some, n, func(l []api.Point) { found[holdAgainstModel(t, l).Err]++ })
	}
	eachList(grid(3), 5, func(l []api.Point) { found[holdAgainstModel(t, l).Err]++ })
	r := rand.New(rand.NewSource(1))
	for range 60000 {
		l := grid(4)
		r.Shuffle(len(l), func(i, j int) { l[i], l[j] = l[j], l[i] })
		found[holdAgainstModel(t, l[:5+r.Intn(5)]).Err]++
	}
	for _, e := range []api.Errno{api.OK, api.ErrFew, api.ErrArg, api.ErrTwice, api.ErrBack, api.ErrMeet} {
		if found[e] < 100 {
			t.Error("too few", e, found)
		}
	}
}

func TestAgainstModelOfAnySize(t *testing.T) {
	r := rand.New(rand.NewSource(2))
	found := map[api.Fault]int{}
	for range 4000 {
		l := anyStar(r, 3+r.Intn(12))
		if f := holdAgainstModel(t, l); f != none() {
			t.Fatal(l, f)
		}
		for range 1 + r.Intn(3) {
			l = spoil(r, l)
			found[holdAgainstModel(t, l)]++
		}
	}
	for _, e := range []api.Errno{api.ErrArg, api.ErrTwice, api.ErrBack, api.ErrMeet} {
		for i := range 5 {
			// The first point of a list is equal to no earlier one.
			if (e != api.ErrTwice || i > 0) && found[fault(e, i)] < 5 {
				t.Error("too few", e, i, found[fault(e, i)])
			}
		}
	}
	if found[none()] < 100 {
		t.Error("too few rings", found[none()])
	}
}

func TestLongOnesAgainstModel(t *testing.T) {
	r := rand.New(rand.NewSource(3))
	for range 6 {
		l := anyStar(r, 190+r.Intn(11))
		if f := ring.Check(l); f != none() || modelCheck(l) != none() {
			t.Fatal(l, f)
		}
		for range 3 {
			l = spoil(r, l)
			if f := ring.Check(l); f != modelCheck(l) {
				t.Fatal(l, f, modelCheck(l))
			}
		}
	}
}

// TestAtTheLimit: rings as great as there are, whose edges miss one another by the least that is possible.
func TestAtTheLimit(t *testing.T) {
	for _, c := range []struct {
		l []api.Point
		f api.Fault
		n int
	}{
		{points(-most, -most, most, -most, most, most, -most, most), none(), 1},
		{points(-most, -most, most, most, most-1, most), none(), 1},
		{points(-most, -most, most, most, most, most-1), none(), -1},
		{points(-most, -most, most, most, 0, 0), fault(api.ErrBack, 0), 0},
		{points(-most, -most, most, most, 0, 1), none(), 1},
		{points(-most, -most, 0, 0, most, most, -most, most), none(), 1},
		{points(-most, -most, most, most, -1, 0, 0, -1), fault(api.ErrMeet, 0), 0},
		{points(-most, -most, most, most, most, 0, 0, 0, most, -most), fault(api.ErrMeet, 0), 0},
		{points(-most, -most, most, most, most, 0, 1, 0, most, -most), none(), -1},
		{points(-most, -most, most, most, most, -most-1), fault(api.ErrArg, 2), 0},
	} {
		if f, n := ring.Check(c.l), ring.Sign(c.l); f != c.f || n != c.n {
			t.Error(c.l, f, n)
		}
		holdAgainstModel(t, c.l)
	}
}

// P9.2

func TestSign(t *testing.T) {
	for _, c := range []struct {
		l []api.Point
		n int
	}{
		{square(), 1}, {points(0, 4, 4, 4, 4, 0, 0, 0), -1}, {square()[:3], 1}, {square()[:2], 0}, {nil, 0},
		{points(0, 0, 4, 4, 4, 0, 0, 4), 0},
		// The least point is the lowest one, of those the one most to the left; its turn counts, not that of most points.
		{points(0, 9, -5, 5, 0, 0, 5, 5), 1},
		{points(5, 0, 9, 0, 9, 9, 0, 9), 1},
		{points(9, 0, 5, 0, 0, 9, 9, 9), -1},
		{points(2, 0, 4, 0, 9, 0, 9, 9), 1},
		{points(9, 0, 4, 0, 2, 0, 9, 9), -1},
		{points(0, 0, 9, 9, 0, 3, -9, 9), 1},
		{points(-9, 9, 0, 3, 9, 9, 0, 0), -1},
		{comb(200), -1},
	} {
		if n := ring.Sign(c.l); n != c.n {
			t.Error(c.l, n)
		}
	}
}

func TestTurned(t *testing.T) {
	for n := range 9 {
		l := comb(9)[:n]
		turned := ring.Turned(l)
		if len(turned) != n {
			t.Error(l, turned)
		}
		for i := range turned {
			if turned[i] != l[n-1-i] {
				t.Error(l, turned)
			}
		}
		if !slices.Equal(ring.Turned(turned), l) {
			t.Error("twice", l)
		}
	}
	if len(ring.Turned(nil)) != 0 {
		t.Error("none")
	}
	// No matter whether it is a ring.
	if l := ring.Turned(points(most+1, 0, 3, 3, 3, 3)); !slices.Equal(l, points(3, 3, 3, 3, most+1, 0)) {
		t.Error(l)
	}
}

func TestFrom(t *testing.T) {
	s := square()
	for _, c := range []struct {
		i    int
		want []api.Point
	}{
		{0, points(0, 0, 4, 0, 4, 4, 0, 4)}, {1, points(4, 0, 4, 4, 0, 4, 0, 0)}, {3, points(0, 4, 0, 0, 4, 0, 4, 4)},
		{4, s}, {5, points(4, 0, 4, 4, 0, 4, 0, 0)}, {-1, points(0, 4, 0, 0, 4, 0, 4, 4)}, {-4, s}, {-3, points(4, 0, 4, 4, 0, 4, 0, 0)},
		{math.MaxInt, points(0, 4, 0, 0, 4, 0, 4, 4)}, {math.MinInt, s},
	} {
		if l := ring.From(s, c.i); !slices.Equal(l, c.want) {
			t.Error(c.i, l)
		}
	}
	for n := 1; n < 9; n++ {
		l := comb(9)[:n]
		for _, i := range []int{-30, -9, -8, -2, -1, 0, 1, 2, 7, 8, 30, math.MaxInt, math.MaxInt - 1, math.MinInt, math.MinInt + 1} {
			from := ring.From(l, i)
			if len(from) != n {
				t.Fatal(l, i, from)
			}
			for k := range from {
				place := new(big.Int).Add(big.NewInt(int64(i)), big.NewInt(int64(k)))
				// Mod is never negative.
				if from[k] != l[place.Mod(place, big.NewInt(int64(n))).Int64()] {
					t.Error(l, i, from)
				}
			}
		}
	}
	for _, i := range []int{0, 1, -1, math.MaxInt, math.MinInt} {
		if len(ring.From(nil, i)) != 0 || len(ring.From([]api.Point{}, i)) != 0 {
			t.Error("none", i)
		}
	}
	if l := ring.From(points(most+1, 0, 3, 3, 3, 3), 1); !slices.Equal(l, points(3, 3, 3, 3, most+1, 0)) {
		t.Error(l)
	}
}

// P9.3

func TestNormal(t *testing.T) {
	for _, l := range [][]api.Point{square(), points(4, 0, 9, 9, 0, 0, 1, -1), points(9, 0, 4, 0, 2, 0, 9, 9), comb(50)} {
		want, is := modelNormal(l)
		if !is {
			t.Fatal(l)
		}
		for _, other := range around(l) {
			if n, valid := ring.Normal(other); !valid || !slices.Equal(n, want) {
				t.Error(other, n, valid)
			}
		}
	}
	for _, l := range [][]api.Point{nil, square()[:2], points(0, 0, 4, 4, 4, 0, 0, 4), points(0, 0, 4, 0, 9, 0), comb(201), points(0, 0, 4, 0, 4, most+1)} {
		if n, valid := ring.Normal(l); valid || len(n) != 0 {
			t.Error(l, n, valid)
		}
	}
}

func TestSame(t *testing.T) {
	s := square()
	for _, c := range []struct {
		l    []api.Point
		same bool
	}{
		{s, true}, {ring.From(s, 1), true}, {ring.Turned(s), true}, {ring.From(ring.Turned(s), 2), true},
		{s[:3], false}, {s[1:], false}, {nil, false},
		{points(0, 0, 4, 0, 4, 4, 0, 5), false}, {points(1, 0, 4, 0, 4, 4, 0, 4), false},
		{points(0, 0, 2, 0, 4, 0, 4, 4, 0, 4), false}, // the same line, but another point on it
		{points(0, 0, 4, 4, 4, 0, 0, 4), false},       // the same points in another order
		{append(square(), at(0, 0)), false},
	} {
		if ring.Same(s, c.l) != c.same || ring.Same(c.l, s) != c.same {
			t.Error(c.l, !c.same)
		}
	}
	// The same points around another order, each a valid ring.
	a, b := points(0, 0, 4, 0, 2, 1, 2, 4), points(0, 0, 4, 0, 2, 4, 2, 1)
	if ring.Check(a) != none() || ring.Check(b) != none() || ring.Same(a, b) {
		t.Error("another order")
	}
	for _, l := range [][]api.Point{nil, s[:2], points(0, 0, 4, 4, 4, 0, 0, 4), points(0, 0, 4, 0, 9, 0), comb(201)} {
		if ring.Same(l, l) {
			t.Error("not valid", l)
		}
	}
}

func TestSameAgainstModel(t *testing.T) {
	var rings [][]api.Point
	eachList(points(0, 0, 2, 0, 1, 1, 0, 2, 2, 2), 4, func(l []api.Point) {
		if modelCheck(l) == none() || l[0] == at(1, 1) {
			rings = append(rings, l)
		}
	})
	same := 0
	for _, a := range rings {
		for _, b := range rings {
			want := modelSame(a, b)
			if ring.Same(a, b) != want {
				t.Fatal(a, b, !want)
			}
			if want {
				same++
			}
		}
	}
	if same < 300 {
		t.Error("too few", same)
	}
}

// P9.4

func holdAround(t *testing.T, l []api.Point) {
	t.Helper()
	n := ring.Sign(l)
	for i := range l {
		from := ring.From(l, i)
		turned := ring.Turned(from)
		if ring.Check(from) != none() || ring.Check(turned) != none() {
			t.Fatal(l, i, ring.Check(from), ring.Check(turned))
		}
		if n == 0 || ring.Sign(from) != n || ring.Sign(turned) != -n {
			t.Fatal(l, i, n, ring.Sign(from), ring.Sign(turned))
		}
		if !ring.Same(l, from) || !ring.Same(turned, l) {
			t.Fatal(l, i, "same")
		}
	}
}

// P9.5

func holdNormal(t *testing.T, a, b []api.Point) {
	t.Helper()
	m, validA := ring.Normal(a)
	n, validB := ring.Normal(b)
	if !validA || !validB || ring.Same(a, b) != slices.Equal(m, n) {
		t.Fatal(a, b, m, n)
	}
	again, valid := ring.Normal(m)
	if !valid || !slices.Equal(again, m) || !ring.Same(a, m) || ring.Sign(m) != 1 {
		t.Fatal(a, m, again)
	}
}

func TestTheoremsOnGrid(t *testing.T) {
	var before []api.Point
	held := 0
	for n := 3; n <= 5; n++ {
		eachList(grid(3), n, func(l []api.Point) {
			if ring.Check(l) != none() {
				return
			}
			holdAround(t, l)
			if before != nil {
				holdNormal(t, l, before)
				holdNormal(t, before, l)
			}
			before = l
			held++
		})
	}
	if held < 3000 {
		t.Error("too few", held)
	}
}

func TestTheoremsOfAnySize(t *testing.T) {
	r := rand.New(rand.NewSource(4))
	before := square()
	for range 600 {
		l := anyStar(r, 3+r.Intn(20))
		holdAround(t, l)
		holdNormal(t, l, before)
		holdNormal(t, l, ring.From(ring.Turned(l), r.Intn(50)))
		before = l
	}
	holdAround(t, comb(40))
}

// TestNewMemory: no argument is changed, neither is its spare capacity, and what is done to a result is seen nowhere else.
func TestNewMemory(t *testing.T) {
	normal := func(l []api.Point) []api.Point {
		n, _ := ring.Normal(l)
		return n
	}
	for name, call := range map[string]func(l []api.Point) []api.Point{
		"turned": ring.Turned,
		"from 0": func(l []api.Point) []api.Point { return ring.From(l, 0) },
		"from 2": func(l []api.Point) []api.Point { return ring.From(l, 2) },
		"normal": normal,
		"check":  func(l []api.Point) []api.Point { ring.Check(l); ring.Sign(l); ring.Same(l, l); return nil },
	} {
		for _, form := range [][]api.Point{square(), ring.Turned(square()), ring.From(square(), 1), nil} {
			spare := append(slices.Clone(form), points(7, 7, 8, 8, 9, 9)...)
			kept := slices.Clone(spare)
			l := spare[:len(form)]
			first, second := call(l), call(l)
			want := slices.Clone(first)
			first = first[:cap(first)]
			for i := range first {
				first[i] = at(-1, -1)
			}
			if !slices.Equal(spare, kept) || !slices.Equal(second, want) || !slices.Equal(call(l), want) {
				t.Error(name, form, spare, second)
			}
		}
	}
}
