package region_test

import (
	"math"
	"math/big"
	"math/rand"
	"slices"
	"testing"

	"apportion/api"
	"apportion/inside"
	"apportion/point"
	"apportion/region"
	"apportion/ring"
)

// most is the greatest coordinate.
const most = 1<<40 - 1

func at(x, y int) api.Point { return api.Point{X: x, Y: y} }

// points are those of the given coordinates, X and Y in turn.
func points(n ...int) []api.Point {
	var l []api.Point
	for i := 0; i < len(n); i += 2 {
		l = append(l, at(n[i], n[i+1]))
	}
	return l
}

func of(l ...[]api.Point) api.Region { return api.Region{Rings: l} }

// box is the ring around the points from a b to c d.
func box(a, b, c, d int) []api.Point { return points(a, b, c, b, c, d, a, d) }

// bow meets itself.
func bow() []api.Point { return points(0, 0, 4, 4, 4, 0, 0, 4) }

// comb is a valid ring of n points, the greatest X of which is x + n: one tooth beside the other, and a way back below them.
func comb(n, x int) []api.Point {
	l := points(x+n, -1, x, -2)
	for i := range n - 2 {
		l = append(l, at(x+i+1, 1+i%2*1000))
	}
	return l
}

// row are n boxes that lie side by side, with room between them.
func row(n int) [][]api.Point {
	var l [][]api.Point
	for i := range n {
		l = append(l, box(9*i, 0, 9*i+4, 4))
	}
	return l
}

func none() api.Fault { return api.Fault{} }

func fault(e api.Errno, i int) api.Fault { return api.Fault{Err: e, At: i} }

// field are the points from low low to high high.
func field(low, high int) []api.Point {
	var l []api.Point
	for y := low; y <= high; y++ {
		for x := low; x <= high; x++ {
			l = append(l, at(x, y))
		}
	}
	return l
}

// notValid are points beyond the limit.
func notValid() []api.Point {
	var l []api.Point
	for _, n := range []int{most + 1, -most - 1, 1 << 60, math.MaxInt, math.MinInt} {
		l = append(l, at(n, 0), at(0, n), at(n, n))
	}
	return l
}

// eachRing calls do with each valid ring of n of some points, in every order, beginning with the point that stands first among them.
func eachRing(some []api.Point, n int, do func(l []api.Point)) {
	var grow func(l []api.Point, first int)
	grow = func(l []api.Point, first int) {
		if len(l) == n {
			if ring.Check(l) == none() {
				do(slices.Clone(l))
			}
			return
		}
		for i, p := range some {
			if len(l) == 0 {
				grow([]api.Point{p}, i)
			} else if i > first && !slices.Contains(l, p) {
				grow(append(l, p), first)
			}
		}
	}
	grow(nil, 0)
}

func ringsOf(some []api.Point, n int) [][]api.Point {
	var all [][]api.Point
	eachRing(some, n, func(l []api.Point) { all = append(all, l) })
	return all
}

// turnAny is the same ring, beginning anywhere, in any direction.
func turnAny(r *rand.Rand, l []api.Point) []api.Point {
	l = ring.From(l, r.Intn(len(l)))
	if r.Intn(2) == 0 {
		return ring.Turned(l)
	}
	return l
}

// reorder is a region with the same rings, in any order, each turned in any way.
func reorder(r *rand.Rand, g api.Region) api.Region {
	var l [][]api.Point
	for _, i := range r.Perm(len(g.Rings)) {
		l = append(l, turnAny(r, g.Rings[i]))
	}
	return of(l...)
}

// spread makes all points of a region, which lie from 0 0 to 8 8, slant and great: by how much is a matter of luck.
func spread(r *rand.Rand, g api.Region) api.Region {
	size := []int{1, 2, 7, 1 << 20, most / 24}[r.Intn(5)]
	slantX, slantY := r.Intn(2), r.Intn(2)
	if slantX*slantY == 1 {
		slantY = -1
	}
	var l [][]api.Point
	for _, one := range g.Rings {
		var moved []api.Point
		for _, p := range one {
			moved = append(moved, at(size*(p.X+slantX*p.Y), size*(p.Y+slantY*p.X)))
		}
		l = append(l, moved)
	}
	return of(l...)
}

// product is (b - a) x (d - c), in numbers of any size.
func product(a, b, c, d api.Point) *big.Int {
	left, right := new(big.Int), new(big.Int)
	left.Mul(difference(b.X, a.X), difference(d.Y, c.Y))
	right.Mul(difference(b.Y, a.Y), difference(d.X, c.X))
	return left.Sub(left, right)
}

func difference(m, n int) *big.Int {
	return new(big.Int).Sub(big.NewInt(int64(m)), big.NewInt(int64(n)))
}

// modelOnLine reports whether two segments on one line have more than a point in common.
func modelOnLine(a, b, c, d api.Point) bool {
	common := func(a, b, c, d int) int { return min(max(a, b), max(c, d)) - max(min(a, b), min(c, d)) }
	x, y := common(a.X, b.X, c.X, d.X), common(a.Y, b.Y, c.Y, d.Y)
	return x >= 0 && y >= 0 && x+y > 0
}

// modelEdges reports whether two segments cross or are over one another, by solving a + s (b - a) = c + t (d - c).
func modelEdges(a, b, c, d api.Point) bool {
	whole := product(a, b, c, d)
	if whole.Sign() == 0 {
		return product(a, b, a, c).Sign() == 0 && modelOnLine(a, b, c, d)
	}
	// Each of s and t is a part of whole: neither all nor nothing of it, or the point would be an end.
	within := func(part *big.Int) bool { return part.Sign() == whole.Sign() && part.CmpAbs(whole) < 0 }
	return within(product(a, c, c, d)) && within(product(a, c, a, b))
}

func modelMeet(r, s []api.Point) bool {
	for i := range r {
		for j := range s {
			if modelEdges(r[i], r[(i+1)%len(r)], s[j], s[(j+1)%len(s)]) {
				return true
			}
		}
	}
	return false
}

// modelCheck looks for the faults as the document tells them, each with its own words.
func modelCheck(g api.Region) api.Fault {
	if len(g.Rings) > 20 {
		return fault(api.ErrLong, 0)
	}
	if len(g.Rings) == 0 {
		return fault(api.ErrArg, 0)
	}
	if len(slices.Concat(g.Rings...)) > 400 {
		return fault(api.ErrMany, 0)
	}
	for i, l := range g.Rings {
		if f := ring.Check(l); f != none() {
			return fault(f.Err, i)
		}
	}
	for i := range g.Rings {
		for j := i + 1; j < len(g.Rings); j++ {
			if modelMeet(g.Rings[i], g.Rings[j]) {
				return fault(api.ErrRings, i)
			}
		}
	}
	return none()
}

func modelValid(p api.Point) bool {
	return p.X >= -most && p.X <= most && p.Y >= -most && p.Y <= most
}

// modelIn counts the edges of all rings that are to the right of p, no matter of which ring they are.
func modelIn(p api.Point, g api.Region) bool {
	n := 0
	for _, l := range g.Rings {
		for i, a := range l {
			b := l[(i+1)%len(l)]
			if a.Y > b.Y {
				a, b = b, a
			}
			if modelValid(p) && modelValid(a) && modelValid(b) && a.Y <= p.Y && p.Y < b.Y && product(a, b, a, p).Sign() > 0 {
				n++
			}
		}
	}
	return n%2 == 1
}

func modelBox(g api.Region) (api.Box, bool) {
	all := slices.Concat(g.Rings...)
	if len(all) == 0 || slices.ContainsFunc(all, func(p api.Point) bool { return !modelValid(p) }) {
		return api.Box{}, false
	}
	x := api.Box{Low: all[0], High: at(all[0].X+1, all[0].Y+1)}
	for _, p := range all {
		x.Low = at(min(x.Low.X, p.X), min(x.Low.Y, p.Y))
		x.High = at(max(x.High.X, p.X+1), max(x.High.Y, p.Y+1))
	}
	return x, true
}

func modelSame(a, b api.Region) bool {
	return modelCheck(a) == none() && modelCheck(b) == none() && modelPaired(a, b)
}

// modelPaired pairs the rings: as rings that are the same have the same partners, the first one that is left will do.
func modelPaired(a, b api.Region) bool {
	left := slices.Clone(b.Rings)
	for _, l := range a.Rings {
		i := slices.IndexFunc(left, func(m []api.Point) bool { return ring.Same(l, m) })
		if i < 0 {
			return false
		}
		left = slices.Delete(left, i, i+1)
	}
	return len(left) == 0
}

// holdCheck checks what hangs on whether a region is valid.
func holdCheck(t *testing.T, g api.Region) api.Fault {
	t.Helper()
	f := region.Check(g)
	if f != modelCheck(g) {
		t.Fatal(g, "fault", f, "not", modelCheck(g))
	}
	if region.Same(g, g) != (f == none()) {
		t.Fatal(g, "same as itself")
	}
	return f
}

func holdBox(t *testing.T, g api.Region) {
	t.Helper()
	x, is := region.Box(g)
	if y, want := modelBox(g); x != y || is != want {
		t.Fatal(g, "box", x, is, "not", y, want)
	}
}

func holdIn(t *testing.T, p api.Point, g api.Region) bool {
	t.Helper()
	in := region.In(p, g)
	if in != modelIn(p, g) {
		t.Fatal(p, g, in)
	}
	return in
}

// P11.1

func TestCheck(t *testing.T) {
	s := box(0, 0, 9, 9)
	for _, c := range []struct {
		g api.Region
		f api.Fault
	}{
		{of(s), none()},
		{of(s, box(2, 2, 4, 4)), none()},
		{of(box(2, 2, 4, 4), s), none()},
		{of(s, box(2, 2, 12, 4)), fault(api.ErrRings, 0)},
		{of(s, s), fault(api.ErrRings, 0)},
		{of(), fault(api.ErrArg, 0)},
		{of([][]api.Point{}...), fault(api.ErrArg, 0)},
		{of(s, s[:2]), fault(api.ErrFew, 1)},
		// The same ring, turned; a ring beside it; an island in a hole.
		{of(s, ring.Turned(s)), fault(api.ErrRings, 0)},
		{of(s, ring.From(ring.Turned(s), 2)), fault(api.ErrRings, 0)},
		{of(s, box(20, 0, 29, 9)), none()},
		{of(box(4, 4, 5, 5), s, box(2, 2, 7, 7)), none()},
		// Common pieces of edges, great and small, within and without.
		{of(s, box(9, 0, 12, 9)), fault(api.ErrRings, 0)},
		{of(s, box(9, 2, 12, 4)), fault(api.ErrRings, 0)},
		{of(s, box(9, 8, 12, 14)), fault(api.ErrRings, 0)},
		{of(s, box(0, 0, 4, 4)), fault(api.ErrRings, 0)},
		{of(s, points(5, 9, 7, 9, 6, 4)), fault(api.ErrRings, 0)},
		{of(points(0, 0, 6, 3, 0, 9), points(2, 1, 4, 2, 9, -9)), fault(api.ErrRings, 0)},
		// A corner cut off, a bar across, a spike over a corner.
		{of(s, box(8, 8, 12, 12)), fault(api.ErrRings, 0)},
		{of(s, box(-1, 4, 10, 5)), fault(api.ErrRings, 0)},
		{of(s, points(0, -5, 5, -5, -5, 5)), none()},
		{of(s, points(1, -5, 5, -5, -5, 6)), fault(api.ErrRings, 0)},
		{of(s, points(0, -5, 0, -6, -5, 4, -5, 5)), none()},
	} {
		if f := holdCheck(t, c.g); f != c.f {
			t.Error(c.g, f, "not", c.f)
		}
	}
}

// TestTouching: rings may have points in common, as many as they like, as long as their edges end there.
func TestTouching(t *testing.T) {
	s := box(0, 0, 9, 9)
	for _, g := range []api.Region{
		of(s, box(9, 9, 12, 12)), of(s, box(9, -3, 12, 0)), of(box(-3, -3, 0, 0), s),
		of(s, points(9, 4, 12, 2, 12, 6)), of(points(9, 4, 12, 2, 12, 6), s),
		of(s, points(0, 4, 4, 2, 4, 6)), of(points(0, 4, 4, 2, 4, 6), s),
		of(s, points(0, 0, 5, 3, 3, 5)), of(s, points(9, 9, 5, 3, 3, 5)),
		of(s, points(0, 4, 4, 0, 9, 4, 4, 9)), of(s, points(0, 0, 5, 4, 9, 9, 4, 5)),
		of(s, points(0, 2, 2, 1, 0, 8, 1, 3)), of(s, points(9, 0, 12, 4, 9, 9, 10, 4)),
		of(s, points(9, 2, 12, 2, 12, 7, 9, 7, 11, 5)),
		of(s, points(2, 0, 5, 5, 7, 0, 5, 7), points(0, 2, 2, 4, 0, 7, 1, 4)),
		// Each of them goes through the other one, but where edges of one end, or of both.
		of(points(0, 0, 9, 0, 9, 4, 9, 9, 4, 9, 0, 9), points(4, 4, 9, 4, 12, 12, 4, 9)),
		of(s, points(4, 4, 9, 4, 12, 12, 4, 9)), of(box(0, 0, 4, 4), points(2, 2, 4, 0, 6, 2, 4, 4)),
		of(s, points(-2, -2, 12, -5, 12, 12)), of(points(-2, -2, 12, -5, 12, 12), s),
	} {
		if f := holdCheck(t, g); f != none() {
			t.Error(g, f)
		}
	}
}

// TestFirstFault: of two faults the one counts whose kind comes first, wherever it is; of one kind, the first.
func TestFirstFault(t *testing.T) {
	s, few := box(0, 0, 9, 9), points(1, 1, 2, 2)
	twentyOne := row(21)
	many := append(row(19), comb(201, 1000))
	many[0] = comb(150, 2000)
	for _, c := range []struct {
		g api.Region
		f api.Fault
	}{
		{of(append(twentyOne, comb(400, 0))...), fault(api.ErrLong, 0)},
		{of(append([][]api.Point{few}, twentyOne...)...), fault(api.ErrLong, 0)},
		{of(append(twentyOne, s, s)...), fault(api.ErrLong, 0)},
		{of(make([][]api.Point, 21)...), fault(api.ErrLong, 0)},
		{of(many...), fault(api.ErrMany, 0)},
		{of(few, comb(399, 0)), fault(api.ErrMany, 0)},
		{of(make([]api.Point, 401)), fault(api.ErrMany, 0)},
		{of(make([]api.Point, 400)), fault(api.ErrLong, 0)},
		{of(comb(190, 0), comb(190, 0), box(0, 0, 3, 3), box(0, 0, 3, 3), box(0, 0, 3, 3), nil, few), fault(api.ErrFew, 5)},
		{of(few, s, s), fault(api.ErrFew, 0)},
		{of(s, s, few), fault(api.ErrFew, 2)},
		{of(s, s, bow()), fault(api.ErrMeet, 2)},
		{of(s, bow(), few), fault(api.ErrMeet, 1)},
		{of(s, few, bow()), fault(api.ErrFew, 1)},
		{of(s, s, nil), fault(api.ErrFew, 2)},
		{of(nil), fault(api.ErrFew, 0)},
		{of(s, points(0, 0, 4, 0, most+1, 0), few), fault(api.ErrArg, 1)},
	} {
		if f := holdCheck(t, c.g); f != c.f {
			t.Error(c.g, f, "not", c.f)
		}
	}
}

// TestFaultsOfRings: the error of a ring is told, but at the ring, not at the point.
func TestFaultsOfRings(t *testing.T) {
	for _, c := range []struct {
		l []api.Point
		e api.Errno
	}{
		{comb(201, 1000), api.ErrLong},
		{nil, api.ErrFew}, {points(5, 5, 6, 6), api.ErrFew},
		{points(0, 0, 4, 0, 4, 4, 0, most+1), api.ErrArg}, {points(math.MinInt, 0, 4, 0, 4, 4), api.ErrArg},
		{points(0, 0, 4, 0, 4, 4, 4, 0), api.ErrTwice},
		{points(0, 0, 4, 0, 4, 4, 4, 2), api.ErrBack},
		{points(-2, 9, 0, 0, 4, 4, 4, 0, 0, 4), api.ErrMeet},
	} {
		for i := range 20 {
			l := row(20)
			l[i] = c.l
			if f := holdCheck(t, of(l...)); f != fault(c.e, i) {
				t.Error(i, c.l, f)
			}
		}
	}
}

func TestLimits(t *testing.T) {
	for n := 1; n <= 20; n++ {
		if f := holdCheck(t, of(row(n)...)); f != none() {
			t.Error(n, f)
		}
	}
	for _, g := range []api.Region{of(comb(200, 0)), of(comb(200, 0), comb(200, 1000)), of(comb(133, 0), comb(134, 1000), comb(133, 2000))} {
		if f := holdCheck(t, g); f != none() {
			t.Error(f)
		}
	}
	var twenties [][]api.Point
	for i := range 20 {
		twenties = append(twenties, comb(20, 100*i))
	}
	if f := holdCheck(t, of(twenties...)); f != none() {
		t.Error(f)
	}
	for i := range twenties {
		more := slices.Clone(twenties)
		more[i] = comb(21, 100*i)
		if f := holdCheck(t, of(more...)); f != fault(api.ErrMany, 0) {
			t.Error(i, f)
		}
	}
	for _, g := range []api.Region{of(comb(200, 0), comb(201, 1000)), of(comb(201, 0), comb(200, 1000)), of(comb(401, 0))} {
		if f := holdCheck(t, g); f != fault(api.ErrMany, 0) {
			t.Error(f)
		}
	}
	if f := holdCheck(t, of(comb(199, 0), comb(201, 1000))); f != fault(api.ErrLong, 1) {
		t.Error(f)
	}
}

// TestMeetingRings: the first ring counts that meets a later one, whichever that is, and whatever the others do.
func TestMeetingRings(t *testing.T) {
	for i := range 20 {
		for j := i + 1; j < 20; j++ {
			l := row(20)
			l[j] = box(9*i+2, 2, 9*i+6, 6)
			if f := holdCheck(t, of(l...)); f != fault(api.ErrRings, i) {
				t.Error(i, j, f)
			}
			// One more pair that meets, before or behind.
			k := (i + j) / 2
			if k == i || k == j {
				continue
			}
			l[k] = l[j]
			if f := holdCheck(t, of(l...)); f != fault(api.ErrRings, i) {
				t.Error(i, k, j, f)
			}
			l[19], l[18] = box(500, 0, 504, 4), box(502, 2, 506, 6)
			if f := region.Check(of(l...)); f != modelCheck(of(l...)) {
				t.Error(i, k, j, f)
			}
		}
	}
}

// TestMeetingEdges: one pair of edges is enough, whichever it is.
func TestMeetingEdges(t *testing.T) {
	star := points(0, 0, 10, 4, 20, 0, 16, 10, 20, 20, 10, 16, 0, 20, 4, 10)
	for i := range star {
		a, b := star[i], star[(i+1)%len(star)]
		middle := at((a.X+b.X)/2, (a.Y+b.Y)/2)
		needle := points(middle.X-1, middle.Y-1, middle.X+2, middle.Y, middle.X, middle.Y+2)
		meets := 0
		for k := range star {
			if modelMeet([]api.Point{star[k], star[(k+1)%len(star)]}, needle) {
				meets++
			}
		}
		if meets != 1 {
			t.Fatal(needle, meets)
		}
		for k := range needle {
			from := ring.From(needle, k)
			for _, g := range []api.Region{of(star, from), of(from, star), of(star, ring.Turned(from)), of(ring.Turned(from), star)} {
				if f := holdCheck(t, g); f != fault(api.ErrRings, 0) {
					t.Error(g, f)
				}
			}
		}
	}
}

// TestAllPairs: all rings of 3 and 4 points of a small field, each with each.
func TestAllPairs(t *testing.T) {
	all := append(ringsOf(field(0, 2), 3), ringsOf(field(0, 2), 4)...)
	found := map[api.Fault]int{}
	for _, a := range all {
		for _, b := range all {
			found[holdCheck(t, of(a, b))]++
		}
	}
	if len(all) < 300 || found[none()] < 1000 || found[fault(api.ErrRings, 0)] < 1000 {
		t.Error("too few", len(all), found)
	}
}

func TestAgainstModelOfAnySize(t *testing.T) {
	r := rand.New(rand.NewSource(1))
	some := slices.Concat(ringsOf(field(0, 2), 3), ringsOf(field(0, 2), 4))
	found := map[api.Fault]int{}
	for range 12000 {
		var l [][]api.Point
		for range 2 + r.Intn(3) {
			dx, dy, size := r.Intn(7), r.Intn(7), 1
			if r.Intn(3) == 0 {
				dx, dy, size = r.Intn(3), r.Intn(3), 3
			}
			var moved []api.Point
			for _, p := range some[r.Intn(len(some))] {
				moved = append(moved, at(dx+size*p.X, dy+size*p.Y))
			}
			l = append(l, moved)
		}
		g := reorder(r, spread(r, of(l...)))
		// As little as possible beside where rings touch, or miss one another.
		if r.Intn(2) == 0 {
			one := g.Rings[r.Intn(len(g.Rings))]
			i := r.Intn(len(one))
			one[i] = at(one[i].X+r.Intn(3)-1, one[i].Y+r.Intn(3)-1)
		}
		found[holdCheck(t, g)]++
		holdBox(t, g)
		for range 3 {
			holdIn(t, near(r, g), g)
		}
	}
	for _, f := range []api.Fault{none(), fault(api.ErrRings, 0), fault(api.ErrRings, 1), fault(api.ErrRings, 2)} {
		if found[f] < 150 {
			t.Error("too few", f, found)
		}
	}
}

// near is a point of one of the rings, or between two of them, or just beside.
func near(r *rand.Rand, g api.Region) api.Point {
	all := slices.Concat(g.Rings...)
	p, q := all[r.Intn(len(all))], all[r.Intn(len(all))]
	return at((p.X+q.X)/2+r.Intn(3)-1, (p.Y+q.Y)/2+r.Intn(3)-1)
}

// TestAtTheLimit: rings as great as there are, which meet, or miss one another, by the least that is possible.
func TestAtTheLimit(t *testing.T) {
	whole := box(-most, -most, most, most)
	for _, c := range []struct {
		g api.Region
		f api.Fault
	}{
		{of(whole), none()},
		{of(whole, box(1-most, 1-most, most-1, most-1)), none()},
		{of(whole, box(1-most, 1-most, most, most-1)), fault(api.ErrRings, 0)},
		{of(whole, points(1-most, 1-most, most, most-1, 0, most)), none()},
		{of(whole, points(-most, -most, most, most, 0, most)), fault(api.ErrRings, 0)},
		{of(whole, points(-most, -most, most, most, 0, most-1)), none()},
		{of(points(-most, -most, most, most, -most, most), points(-most, -most, most, most-1, most, -most)), none()},
		{of(points(-most, -most, most, most, -most, most), points(-most, -most, most, most, most, -most)), fault(api.ErrRings, 0)},
		{of(points(-most, -most, most, most, -most, most), points(1-most, -most, most, most-1, most, -most)), none()},
		{of(points(-most, -most, most, most-1, -most, most), points(0, -1, most, most-1, most, -most)), none()},
		{of(points(-most, -most, most, most-1, -most, most), points(0, 0, most, most-1, most, -most)), fault(api.ErrRings, 0)},
		{of(points(-most, -most, most, most-1, -most, most), points(-1, -2, most, most-1, most, -most)), none()},
		{of(points(-most, -most, most, most-1, -most, most), points(-1, -1, most, most-1, most, -most)), fault(api.ErrRings, 0)},
		{of(box(-most, -most, 0, 0), box(0, 0, most, most)), none()},
		{of(box(-most, -most, 0, most), box(0, -most, most, most)), fault(api.ErrRings, 0)},
		{of(box(-most, -most, 0, most), box(1, -most, most, most)), none()},
		{of(whole, box(0, 0, most+1, 5)), fault(api.ErrArg, 1)},
	} {
		if f := holdCheck(t, c.g); f != c.f {
			t.Error(c.g, f, "not", c.f)
		}
		holdBox(t, c.g)
		for _, p := range []api.Point{at(-most, -most), at(most, most), at(most-1, most-1), at(0, 0), at(1, 0), at(0, 1), at(-1, 0), at(most, 0), at(-most, most-1)} {
			holdIn(t, p, c.g)
		}
	}
}

// TestMuchTooLong: what is too long is not looked at ring by ring, let alone edge by edge.
func TestMuchTooLong(t *testing.T) {
	long := make([]api.Point, 1<<22)
	for i := range long {
		long[i] = at(i, i%2)
	}
	many := make([][]api.Point, 1<<20)
	for i := range many {
		many[i] = box(4*i, 0, 4*i+2, 2)
	}
	for _, c := range []struct {
		g api.Region
		f api.Fault
	}{{of(long), fault(api.ErrMany, 0)}, {of(long, long), fault(api.ErrMany, 0)}, {of(many...), fault(api.ErrLong, 0)}} {
		if f := region.Check(c.g); f != c.f || region.Same(c.g, c.g) {
			t.Error(f)
		}
	}
	if x, is := region.Box(of(long)); !is || x != (api.Box{High: at(1<<22, 2)}) {
		t.Error(x, is)
	}
	if x, is := region.Box(of(many...)); !is || x != (api.Box{High: at(4<<20-1, 3)}) {
		t.Error(x, is)
	}
	last := many[len(many)-1][0]
	if !region.In(last, of(many...)) || !region.In(at(0, 1), of(many...)) || region.In(at(2, 1), of(many...)) || region.In(at(-1, 1), of(many...)) {
		t.Error("in many")
	}
	if region.In(at(-1, 0), of(long)) || !region.In(at(-1, 0), of(long, box(-1, -1, 1, 1))) {
		t.Error("in long")
	}
}

// P11.2

func TestIn(t *testing.T) {
	g := of(box(0, 0, 9, 9), box(2, 2, 4, 4))
	for _, p := range field(-2, 11) {
		within := p.X >= 0 && p.X < 9 && p.Y >= 0 && p.Y < 9
		hole := p.X >= 2 && p.X < 4 && p.Y >= 2 && p.Y < 4
		if holdIn(t, p, g) != (within && !hole) {
			t.Error(p)
		}
	}
	for _, p := range field(-1, 1) {
		if region.In(p, of()) || region.In(p, of(nil)) || region.In(p, of(nil, nil, nil)) || region.In(p, of(points(0, 0))) {
			t.Error("none", p)
		}
	}
}

// TestInAnyRings: valid or not: rings that stand there twice undo each other, rings that cross do where both are.
func TestInAnyRings(t *testing.T) {
	s, u := box(0, 0, 4, 4), box(2, 2, 6, 6)
	for _, c := range []struct {
		g  api.Region
		in func(first, second bool) bool
	}{
		{of(s, s), func(first, second bool) bool { return false }},
		{of(s, ring.Turned(s)), func(first, second bool) bool { return false }},
		{of(s, s, s), func(first, second bool) bool { return first }},
		{of(s, u), func(first, second bool) bool { return first != second }},
		{of(s, u, u), func(first, second bool) bool { return first }},
		{of(s, nil, u, s), func(first, second bool) bool { return second }},
		{of(u, points(0, 0, 4, 4), s, u), func(first, second bool) bool { return first }},
	} {
		for _, p := range field(-1, 7) {
			if holdIn(t, p, c.g) != c.in(inside.In(p, s), inside.In(p, u)) {
				t.Error(p, c.g)
			}
		}
	}
	for n := range 40 {
		var l [][]api.Point
		for range n {
			l = append(l, s)
		}
		if region.In(at(1, 1), of(l...)) != (n%2 == 1) {
			t.Error(n)
		}
	}
}

func TestInOfNotValid(t *testing.T) {
	for _, far := range notValid() {
		g := of(box(0, 0, 9, 9), points(2, 2, 4, 2, 4, 4), box(1, 1, 3, 3))
		if region.In(far, g) {
			t.Error(far)
		}
		g.Rings[1][1] = far
		for _, p := range append(field(-1, 10), far) {
			holdIn(t, p, g)
		}
	}
}

func TestInAgainstModel(t *testing.T) {
	r := rand.New(rand.NewSource(2))
	found := map[bool]int{}
	for range 20000 {
		reach := []int{2, 5, 100, most}[r.Intn(4)]
		some := func() api.Point { return at(r.Intn(2*reach+1)-reach, r.Intn(2*reach+1)-reach) }
		l := [][]api.Point{{some(), some(), some()}}
		for range r.Intn(6) {
			var one []api.Point
			for range r.Intn(7) {
				one = append(one, some())
			}
			l = append(l, one)
		}
		g := of(l...)
		if r.Intn(8) == 0 {
			g.Rings[0][r.Intn(3)] = notValid()[r.Intn(len(notValid()))]
		}
		found[holdIn(t, some(), g)]++
		holdBox(t, g)
	}
	if found[true] < 3000 || found[false] < 3000 {
		t.Error("too few", found)
	}
}

func TestBox(t *testing.T) {
	s := box(0, 0, 9, 9)
	for _, c := range []struct {
		g  api.Region
		x  api.Box
		is bool
	}{
		{of(s, box(2, 2, 4, 4)), api.Box{High: at(10, 10)}, true},
		{of(box(2, 2, 4, 4), s), api.Box{High: at(10, 10)}, true},
		{of(s, box(-3, 4, 2, 20)), api.Box{Low: at(-3, 0), High: at(10, 21)}, true},
		{of(box(-7, -8, -5, -6), box(5, 6, 7, 8)), api.Box{Low: at(-7, -8), High: at(8, 9)}, true},
		// Valid or not, with rings of few points and of none.
		{of(points(3, 4)), api.Box{Low: at(3, 4), High: at(4, 5)}, true},
		{of(points(3, 4), nil, points(1, 9)), api.Box{Low: at(1, 4), High: at(4, 10)}, true},
		{of(nil, s, nil), api.Box{High: at(10, 10)}, true},
		{of(s, s), api.Box{High: at(10, 10)}, true},
		{of(box(-most, -most, most, most)), api.Box{Low: at(-most, -most), High: at(most+1, most+1)}, true},
		{of(points(most, most), points(-most, -most)), api.Box{Low: at(-most, -most), High: at(most+1, most+1)}, true},
		{of(), api.Box{}, false}, {of(nil), api.Box{}, false}, {of(nil, nil), api.Box{}, false},
	} {
		if x, is := region.Box(c.g); x != c.x || is != c.is {
			t.Error(c.g, x, is)
		}
		holdBox(t, c.g)
	}
	for _, far := range notValid() {
		for i := range 3 {
			l := append(row(3), points(far.X, far.Y))
			l[i], l[3] = l[3], l[i]
			holdBox(t, of(l...))
			l = row(3)
			l[i][i] = far
			holdBox(t, of(l...))
			if _, is := region.Box(of(l...)); is {
				t.Error(l)
			}
		}
	}
}

func TestSame(t *testing.T) {
	s, h, u := box(0, 0, 9, 9), box(2, 2, 4, 4), box(5, 5, 7, 7)
	turned := ring.From(ring.Turned(s), 2)
	for _, c := range []struct {
		a, b api.Region
		same bool
	}{
		{of(s, h), of(h, s), true}, {of(s, h), of(s, h), true}, {of(s), of(s), true},
		{of(s, h, u), of(u, s, h), true}, {of(s, h, u), of(ring.Turned(h), ring.From(u, 3), turned), true},
		{of(s), of(h), false}, {of(s), of(s, h), false}, {of(s, h), of(s, u), false}, {of(s, h, u), of(s, h), false}, {of(h, s), of(u, s), false},
		{of(s), of(turned), true},
		// The same line, but another point on it; the same points, but other rings; the same points in the plane.
		{of(s), of(points(0, 0, 4, 0, 9, 0, 9, 9, 0, 9)), false},
		{of(points(0, 0, 4, 0, 2, 1, 2, 4)), of(points(0, 0, 4, 0, 2, 4, 2, 1)), false},
		{of(points(0, 0, 4, 0, 0, 4), points(9, 0, 9, 9, 6, 9)), of(points(0, 0, 9, 0, 0, 4), points(4, 9, 9, 9, 6, 9)), false},
		{of(points(0, 0, 1, 0, 0, 1), points(5, 0, 6, 0, 5, 1)), of(points(0, 0, 6, 0, 0, 1), points(1, 0, 5, 0, 5, 1)), false},
		{of(box(0, 0, 2, 2), box(2, 2, 4, 4)), of(points(0, 0, 2, 0, 2, 2, 4, 2, 4, 4, 2, 4), points(2, 2, 0, 2, 0, 1)), false},
		// Neither is valid.
		{of(), of(), false}, {of(s, s), of(s, s), false}, {of(s, s), of(s), false}, {of(s), of(s, s), false},
		{of(s, box(2, 2, 12, 4)), of(s, box(2, 2, 12, 4)), false}, {of(bow()), of(bow()), false}, {of(s, nil), of(s, nil), false}, {of(nil), of(nil), false},
		{of(s), of(s, nil), false}, {of(s), of(), false}, {of(row(21)...), of(row(21)...), false}, {of(row(20)...), of(row(21)...), false},
		{of(box(0, 0, most+1, 4)), of(box(0, 0, most+1, 4)), false},
		{of(comb(200, 0), comb(200, 900), s[:1]), of(comb(200, 0), comb(200, 900), s[:1]), false},
	} {
		if region.Same(c.a, c.b) != c.same || region.Same(c.b, c.a) != c.same || modelSame(c.a, c.b) != c.same {
			t.Error(c.a, c.b, !c.same)
		}
	}
}

// TestSameAgainstModel: regions of one, two and three rings from few ones, many of which begin at the same point.
func TestSameAgainstModel(t *testing.T) {
	r := rand.New(rand.NewSource(3))
	some := [][]api.Point{
		box(0, 0, 20, 20), points(0, 0, 5, 1, 5, 3), points(0, 0, 5, 1, 5, 4), points(0, 0, 5, 1, 5, 3, 4, 3), points(0, 0, 4, 6, 3, 6),
		box(10, 10, 12, 12), points(10, 10, 12, 10, 12, 11, 12, 12, 10, 12), box(20, 20, 25, 25),
	}
	var all []api.Region
	var valid []int
	for i := range some {
		for j := range i + 1 {
			for k := range j + 1 {
				var l [][]api.Point
				for _, n := range slices.Compact([]int{k, j, i}) {
					l = append(l, some[n])
				}
				all = append(all, reorder(r, of(l...)), reorder(r, of(l...)))
			}
		}
	}
	for i, g := range all {
		if modelCheck(g) == none() {
			valid = append(valid, i)
		}
	}
	found := map[bool]int{}
	for i, a := range all {
		for j, b := range all {
			want := slices.Contains(valid, i) && slices.Contains(valid, j) && modelPaired(a, b)
			if region.Same(a, b) != want {
				t.Fatal(a, b, !want)
			}
			found[want]++
		}
	}
	if found[true] < 150 || found[false] < 10000 {
		t.Error("too few", found)
	}
}

// P11.3

// holdReordered holds a region against the same rings in another order, otherwise turned.
func holdReordered(t *testing.T, r *rand.Rand, g api.Region, some []api.Point) {
	t.Helper()
	other := reorder(r, g)
	if valid := region.Check(g) == none(); valid != (region.Check(other) == none()) || valid != region.Same(g, other) || valid != region.Same(other, g) {
		t.Fatal(g, other, valid)
	}
	x, is := region.Box(g)
	if y, too := region.Box(other); x != y || is != too {
		t.Fatal(g, other, x, y)
	}
	for _, p := range some {
		if region.In(p, g) != region.In(p, other) {
			t.Fatal(g, other, p)
		}
	}
}

func TestOrderDoesNotMatter(t *testing.T) {
	r := rand.New(rand.NewSource(4))
	some := slices.Concat(ringsOf(field(0, 2), 3), ringsOf(field(0, 2), 4))
	valid := 0
	for range 6000 {
		g := spread(r, of(some[r.Intn(len(some))], box(3, 3, 3+r.Intn(2)+1, 5), some[r.Intn(len(some))]))
		var probes []api.Point
		for range 8 {
			probes = append(probes, near(r, g))
		}
		if region.Check(g) == none() {
			valid++
		}
		holdReordered(t, r, g, probes)
	}
	if valid < 500 {
		t.Error("too few", valid)
	}
}

// TestHoles: rings one in another: what is in an odd number of them is in the region, an island again.
func TestHoles(t *testing.T) {
	shapes := [][]api.Point{box(-1, -1, 1, 1), points(-2, -1, 0, -2, 2, -1, 1, 0, 2, 1, 0, 2, -2, 1, -1, 0), points(-1, -1, 2, 0, -1, 1), points(-1, 0, 3, -2, 0, 0, 3, 2)}
	for i, shape := range shapes {
		for n := 1; n <= 8; n++ {
			var l [][]api.Point
			for k := range n {
				size := (k + 1) * []int{1, 3, most / 24}[i%3]
				var great []api.Point
				for _, p := range shape {
					great = append(great, at(size*p.X, size*p.Y))
				}
				// The inner ones of the last shape, in which the middle is a corner, touch the outer ones.
				l = append(l, great)
			}
			g := of(l...)
			f := region.Check(g)
			if f != modelCheck(g) || i < 3 && f != none() {
				t.Fatal(g, f)
			}
			r := rand.New(rand.NewSource(5))
			for range 300 {
				p, depth := near(r, g), 0
				for _, one := range l {
					if inside.In(p, one) {
						depth++
					}
				}
				if holdIn(t, p, g) != (depth%2 == 1) {
					t.Fatal(p, g, depth)
				}
				if n > 1 && region.In(p, of(l[n-2:]...)) && inside.In(p, l[n-2]) {
					t.Fatal("in the hole", p, g)
				}
			}
		}
	}
}

// P11.4

// landscape divides a box into cells, each with the number of the region to which it belongs: great parts, with islands in them.
func landscape(r *rand.Rand, side, n int) map[api.Point]int {
	seeds := make([]api.Point, n)
	for i := range seeds {
		seeds[i] = at(r.Intn(side), r.Intn(side))
	}
	cells := map[api.Point]int{}
	for _, c := range field(0, side-1) {
		best := slices.MinFunc(seeds, func(a, b api.Point) int {
			return (a.X-c.X)*(a.X-c.X) + (a.Y-c.Y)*(a.Y-c.Y) - (b.X-c.X)*(b.X-c.X) - (b.Y-c.Y)*(b.Y-c.Y)
		})
		cells[c] = slices.Index(seeds, best)
		if r.Intn(6) == 0 {
			cells[c] = r.Intn(n)
		}
	}
	return cells
}

// borders are the edges of the cells of a region that are not between two of them, by where they begin.
func borders(cells map[api.Point]int, side, which int) map[api.Point][]api.Point {
	is := func(x, y int) bool {
		n, there := cells[at(x, y)]
		return there && n == which
	}
	next := map[api.Point][]api.Point{}
	add := func(outside bool, a, b api.Point) {
		if outside {
			next[a] = append(next[a], b)
		}
	}
	for _, c := range field(0, side-1) {
		if x, y := c.X, c.Y; is(x, y) {
			add(!is(x, y-1), at(x, y), at(x+1, y))
			add(!is(x+1, y), at(x+1, y), at(x+1, y+1))
			add(!is(x, y+1), at(x+1, y+1), at(x, y+1))
			add(!is(x-1, y), at(x, y+1), at(x, y))
		}
	}
	return next
}

// trace joins borders to rings: where a way comes to a point for the second time, what lies between is a ring.
func trace(r *rand.Rand, next map[api.Point][]api.Point, side int) [][]api.Point {
	var rings [][]api.Point
	for _, start := range field(0, side) {
		for len(next[start]) > 0 {
			way := []api.Point{start}
			for len(way) > 0 {
				p := way[len(way)-1]
				if i := slices.Index(way, p); i < len(way)-1 {
					rings = append(rings, slices.Clone(way[i:len(way)-1]))
					way = way[:i+1]
				}
				if len(next[p]) == 0 {
					break
				}
				k := r.Intn(len(next[p]))
				way = append(way, next[p][k])
				next[p] = slices.Delete(next[p], k, k+1)
			}
		}
	}
	return rings
}

// crook moves each point of a box's inside a little, and makes all of it great.
type crook struct {
	moved map[api.Point]api.Point
	side  int
}

func newCrook(r *rand.Rand, cells int) crook {
	size := []int{10, 10, 12, 1000, (most - 100) / cells}[r.Intn(5)]
	c := crook{map[api.Point]api.Point{}, size * cells}
	low := at(-r.Intn(most-c.side), -r.Intn(most-c.side))
	for _, p := range field(0, cells) {
		q := at(low.X+size*p.X, low.Y+size*p.Y)
		if reach := size / 5; p.X > 0 && p.X < cells && p.Y > 0 && p.Y < cells {
			q = at(q.X+r.Intn(2*reach+1)-reach, q.Y+r.Intn(2*reach+1)-reach)
		}
		c.moved[p] = q
	}
	return c
}

func (c crook) region(rings [][]api.Point) api.Region {
	var l [][]api.Point
	for _, one := range rings {
		var moved []api.Point
		for _, p := range one {
			moved = append(moved, c.moved[p])
		}
		l = append(l, moved)
	}
	return of(l...)
}

// probes are the points of a landscape's corners and edges, those around them, and some others.
func (c crook) probes(r *rand.Rand, cells int) []api.Point {
	var l []api.Point
	for _, p := range field(0, cells) {
		q := c.moved[p]
		l = append(l, q, at(q.X-1, q.Y), at(q.X+1, q.Y), at(q.X, q.Y-1), at(q.X, q.Y+1))
		for _, to := range []api.Point{at(p.X+1, p.Y), at(p.X, p.Y+1)} {
			if b, there := c.moved[to]; there {
				n := r.Intn(11)
				between := at(q.X+(b.X-q.X)/10*n, q.Y+(b.Y-q.Y)/10*n)
				l = append(l, between, at(between.X+1, between.Y), at(between.X, between.Y+1))
			}
		}
	}
	low := c.moved[at(0, 0)]
	for range 40 {
		l = append(l, at(low.X+r.Intn(c.side+20)-10, low.Y+r.Intn(c.side+20)-10))
	}
	return l
}

func TestSideBySide(t *testing.T) {
	r := rand.New(rand.NewSource(6))
	const cells = 8
	rings, holes, touching := 0, 0, 0
	for range 150 {
		n := 3 + r.Intn(5)
		land, c := landscape(r, cells, n), newCrook(r, cells)
		var all []api.Region
		for which := range n {
			l := trace(r, borders(land, cells, which), cells)
			if len(l) == 0 {
				continue
			}
			g := c.region(l)
			if f := holdCheck(t, g); f != none() {
				t.Fatal(g, f)
			}
			for _, one := range g.Rings {
				rings++
				if ring.Sign(one) < 0 {
					holes++
				}
				if len(slices.Concat(g.Rings...)) > len(one) && modelTouch(one, g) {
					touching++
				}
			}
			all = append(all, reorder(r, g))
		}
		x := api.Box{Low: c.moved[at(0, 0)], High: c.moved[at(cells, cells)]}
		probes := c.probes(r, cells)
		for _, p := range probes {
			in := 0
			for _, g := range all {
				if region.In(p, g) {
					in++
				}
			}
			if want := point.In(p, x); want && in != 1 || !want && in != 0 {
				t.Fatal(p, all, in)
			}
		}
		for _, g := range all {
			holdReordered(t, r, g, probes)
			holdIn(t, probes[r.Intn(len(probes))], g)
			holdBox(t, g)
		}
	}
	if rings < 1000 || holes < 100 || touching < 100 {
		t.Error("too few", rings, holes, touching)
	}
}

// modelTouch reports whether a point of one of the rings of g is a point of another one, too.
func modelTouch(one []api.Point, g api.Region) bool {
	n := 0
	for _, p := range slices.Concat(g.Rings...) {
		if slices.Contains(one, p) {
			n++
		}
	}
	return n > len(one)
}

// TestArguments: no region is changed, nor what lies behind its rings and their points; and neither is a part of it.
func TestArguments(t *testing.T) {
	copies := func(l [][]api.Point) [][]api.Point {
		var other [][]api.Point
		for _, one := range l {
			other = append(other, slices.Clone(one))
		}
		return other
	}
	equal := func(l, m [][]api.Point) bool { return slices.EqualFunc(l, m, slices.Equal[[]api.Point]) }
	spare := [][]api.Point{box(50, 50, 40, 40), append(ring.From(ring.Turned(box(0, 0, 9, 9)), 1), at(3, 3), at(99, 99)), append(box(2, 2, 4, 4), at(100, -100)), box(-5, -5, 99, 99), nil, bow()}
	kept := copies(spare)
	view := func() api.Region {
		l := slices.Clone(spare)
		l[1], l[2] = l[1][:4], l[2][:4]
		return of(l[:3]...)
	}
	for range 2 {
		g := view()
		other := of(copies(g.Rings)...)
		for i := range other.Rings {
			other.Rings[i] = slices.Clip(other.Rings[i])
		}
		other.Rings = slices.Clip(other.Rings)
		x, is := region.Box(g)
		if region.Check(g) != none() || !is || x != (api.Box{High: at(51, 51)}) || !region.Same(g, other) || !region.Same(other, g) {
			t.Error(g, region.Check(g), x)
		}
		for _, p := range field(-6, 60) {
			if region.In(p, g) != region.In(p, other) {
				t.Error(p)
			}
		}
		if !equal(g.Rings, other.Rings) || !equal(spare, kept) || !equal(g.Rings[:cap(g.Rings)][3:6], kept[3:]) {
			t.Error("changed", g, spare)
		}
	}
}
