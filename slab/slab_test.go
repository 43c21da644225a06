package slab_test

import (
	"math"
	"math/big"
	"math/rand"
	"slices"
	"sort"
	"sync"
	"testing"

	"apportion/api"
	"apportion/inside"
	"apportion/region"
	"apportion/ring"
	"apportion/slab"
)

// most is the greatest coordinate.
const most = 1<<40 - 1

func at(x, y int) api.Point { return api.Point{X: x, Y: y} }

// points are those of the given coordinates, X and Y in turn.
func points(n ...int) []api.Point {
	var l []api.Point
	for i := 0; i < len(n); i += 2 {
		l = append(l, at(n[i], n[i+1]))
	}
	return l
}

func of(l ...[]api.Point) api.Region { return api.Region{Rings: l} }

// box is the ring around the points from a b to c d.
func box(a, b, c, d int) []api.Point { return points(a, b, c, b, c, d, a, d) }

// saw is a valid ring of n points, all of different heights: its teeth stand side by side, from x on, each between a low and a high end.
func saw(n, x, first, step int) []api.Point {
	var l []api.Point
	for i := range n - 2 {
		l = append(l, at(x+i, first+step*(i/2+2+i%2*n)))
	}
	return append(l, at(x+n, first+step), at(x-1, first))
}

// star is a ring around a point, none of whose points is nearer than least, nor farther than greatest.
func star(r *rand.Rand, n int, around api.Point, least, greatest int) []api.Point {
	var angles []float64
	for range n {
		angles = append(angles, 2*math.Pi*r.Float64())
	}
	sort.Float64s(angles)
	var l []api.Point
	for _, a := range angles {
		far := float64(least + r.Intn(greatest-least))
		l = append(l, at(around.X+int(far*math.Cos(a)), around.Y+int(far*math.Sin(a))))
	}
	return l
}

// field are the points from low low to high high.
func field(low, high int) []api.Point {
	var l []api.Point
	for y := low; y <= high; y++ {
		for x := low; x <= high; x++ {
			l = append(l, at(x, y))
		}
	}
	return l
}

// fieldRings are the valid rings of n points of a field, in every order, beginning with the one that stands first in the field.
func fieldRings(side, n int) [][]api.Point {
	var all [][]api.Point
	some := field(0, side)
	var grow func(l []api.Point, first int)
	grow = func(l []api.Point, first int) {
		if len(l) == n {
			if ring.Check(l).Err == api.OK {
				all = append(all, slices.Clone(l))
			}
			return
		}
		for i := first + 1; i < len(some); i++ {
			if !slices.Contains(l, some[i]) {
				grow(append(l, some[i]), first)
			}
		}
	}
	for i, p := range some {
		grow([]api.Point{p}, i)
	}
	return all
}

// stretched is a region whose points have other heights and are slanted; no two of them fall together.
func stretched(g api.Region, size, slant int) api.Region {
	var l [][]api.Point
	for _, one := range g.Rings {
		var moved []api.Point
		for _, p := range one {
			moved = append(moved, at(size*p.X, size*p.Y+slant*p.X))
		}
		l = append(l, moved)
	}
	return of(l...)
}

// reordered is a region with the same rings, in any order, each turned in any way.
func reordered(r *rand.Rand, g api.Region) api.Region {
	var l [][]api.Point
	for _, i := range r.Perm(len(g.Rings)) {
		one := ring.From(g.Rings[i], r.Intn(len(g.Rings[i])))
		if r.Intn(2) == 0 {
			one = ring.Turned(one)
		}
		l = append(l, one)
	}
	return of(l...)
}

// notValid are points beyond the limit.
func notValid() []api.Point {
	var l []api.Point
	for _, n := range []int{most + 1, -most - 1, 1 << 60, math.MaxInt, math.MinInt} {
		l = append(l, at(n, 0), at(0, n), at(n, 2), at(2, n), at(n, n))
	}
	return l
}

// probes are points at, around and between those of a region, and some far away.
func probes(r *rand.Rand, g api.Region) []api.Point {
	l := notValid()
	for _, one := range g.Rings {
		for i, p := range one {
			q := one[(i+1)%len(one)]
			n := r.Intn(9)
			between := at(p.X+(q.X-p.X)/8*n, p.Y+(q.Y-p.Y)/8*n)
			other := one[r.Intn(len(one))]
			l = append(l, p, at(p.X-1, p.Y), at(p.X+1, p.Y), at(p.X, p.Y-1), at(p.X, p.Y+1), between, at(between.X-1, between.Y), at(other.X, p.Y), at((p.X+other.X)/2, p.Y))
		}
	}
	x, _ := region.Box(g)
	for range 20 {
		l = append(l, at(x.Low.X-1+r.Intn(x.High.X-x.Low.X+2), x.Low.Y-1+r.Intn(x.High.Y-x.Low.Y+2)))
	}
	return append(l, at(-most, -most), at(most, most), at(-most, most), at(most, -most))
}

func build(t *testing.T, g api.Region) *slab.Slabs {
	t.Helper()
	s, f := slab.Build(g)
	if f != (api.Fault{}) || s == nil {
		t.Fatal(g, f)
	}
	return s
}

// edge is a piece of a ring.
type edge struct{ a, b api.Point }

func modelEdges(g api.Region) []edge {
	var l []edge
	for _, one := range g.Rings {
		for i, p := range one {
			l = append(l, edge{p, one[(i+1)%len(one)]})
		}
	}
	return l
}

// modelHeights returns every Y that a point has.
func modelHeights(g api.Region) []int {
	there := map[int]bool{}
	var l []int
	for _, e := range modelEdges(g) {
		if !there[e.a.Y] {
			l = append(l, e.a.Y)
		}
		there[e.a.Y] = true
	}
	sort.Ints(l)
	return l
}

// modelNumber returns how many edges have points strictly between two heights.
func modelNumber(g api.Region, from, to int) int {
	n := 0
	for _, e := range modelEdges(g) {
		low, high := min(e.a.Y, e.b.Y), max(e.a.Y, e.b.Y)
		if low != high && max(low, from) < min(high, to) {
			n++
		}
	}
	return n
}

func valid(p api.Point) bool {
	return p.X >= -most && p.X <= most && p.Y >= -most && p.Y <= most
}

// modelCounts tells in the document's words, in numbers of any size, whether an edge counts.
func modelCounts(p api.Point, e edge) bool {
	low, high := e.a, e.b
	if low.Y > high.Y {
		low, high = high, low
	}
	if !valid(p) || p.Y < low.Y || p.Y >= high.Y {
		return false
	}
	product := func(m, n int) *big.Int { return new(big.Int).Mul(big.NewInt(int64(m)), big.NewInt(int64(n))) }
	return product(high.X-low.X, p.Y-low.Y).Cmp(product(high.Y-low.Y, p.X-low.X)) > 0
}

func modelCrossings(p api.Point, g api.Region) int {
	n := 0
	for _, e := range modelEdges(g) {
		if modelCounts(p, e) {
			n++
		}
	}
	return n
}

// holdShape checks all that does not hang on a point.
func holdShape(t *testing.T, s *slab.Slabs, g api.Region) {
	t.Helper()
	heights := modelHeights(g)
	if s.Len() != len(heights)-1 {
		t.Fatal(g, "len", s.Len())
	}
	greatest := 0
	for i, from := range heights[:s.Len()] {
		n := modelNumber(g, from, heights[i+1])
		greatest = max(greatest, n)
		if a, b, got, e := s.Slab(i); a != from || b != heights[i+1] || got != n || e != api.OK {
			t.Fatal(g, "slab", i, a, b, got, e, "not", from, heights[i+1], n)
		}
	}
	if s.Most() != greatest {
		t.Fatal(g, "most", s.Most(), "not", greatest)
	}
	for _, i := range []int{s.Len(), s.Len() + 1, 2 * s.Len(), -1, -2, -s.Len(), math.MinInt, math.MaxInt} {
		if a, b, n, e := s.Slab(i); a != 0 || b != 0 || n != 0 || e != api.ErrMissing {
			t.Fatal(g, "slab", i, a, b, n, e)
		}
	}
}

func holdIn(t *testing.T, s *slab.Slabs, g api.Region, p api.Point) bool {
	t.Helper()
	n, counted := s.Crossings(p), 0
	for _, one := range g.Rings {
		counted += inside.Crossings(p, one)
	}
	if want := modelCrossings(p, g); n != want || n != counted {
		t.Fatal(g, "crossings", p, n, "not", want, counted)
	}
	if in := s.In(p); in != region.In(p, g) || in != (n%2 == 1) {
		t.Fatal(g, "in", p, in)
	}
	return s.In(p)
}

// holdTheorems checks what the document says of all slabs.
func holdTheorems(t *testing.T, s *slab.Slabs, g api.Region) {
	t.Helper()
	x, _ := region.Box(g)
	top := x.Low.Y
	for i := range s.Len() {
		from, to, n, _ := s.Slab(i)
		if from != top || to <= from || n%2 != 0 || n > s.Most() || (i == 0 || i == s.Len()-1) && n < 2 {
			t.Fatal(g, i, from, to, n)
		}
		top = to
		for _, y := range []int{from, from + (to-from)/2, to - 1} {
			// All edges lie to the right of the left side, none to the right of the right side.
			if left := at(x.Low.X-1, y); s.In(left) || valid(left) && s.Crossings(left) != n {
				t.Fatal(g, i, y, "left")
			}
			if right := at(x.High.X, y); s.In(right) || s.Crossings(right) != 0 {
				t.Fatal(g, i, y, "right")
			}
		}
	}
	if top != x.High.Y-1 {
		t.Fatal(g, top)
	}
	for _, y := range []int{x.Low.Y - 1, x.High.Y - 1, x.High.Y} {
		for _, p := range g.Rings[0] {
			if p := at(p.X, y); s.In(p) || s.Crossings(p) != 0 {
				t.Fatal(g, p)
			}
		}
	}
}

// hold checks everything there is to check of a region.
func hold(t *testing.T, r *rand.Rand, g api.Region) {
	t.Helper()
	s := build(t, g)
	holdShape(t, s, g)
	holdTheorems(t, s, g)
	for _, p := range probes(r, g) {
		holdIn(t, s, g, p)
	}
}

func TestExamples(t *testing.T) {
	s := build(t, of(box(0, 0, 9, 9), box(2, 2, 4, 4)))
	if s.Len() != 3 || s.Most() != 4 {
		t.Error(s.Len(), s.Most())
	}
	type answer struct {
		from, to, n int
		e           api.Errno
	}
	for i, want := range map[int]answer{0: {0, 2, 2, api.OK}, 1: {2, 4, 4, api.OK}, 2: {4, 9, 2, api.OK}, 3: {0, 0, 0, api.ErrMissing}, -1: {0, 0, 0, api.ErrMissing}} {
		from, to, n, e := s.Slab(i)
		if (answer{from, to, n, e}) != want {
			t.Error(i, from, to, n, e)
		}
	}
	if s.In(at(3, 3)) || !s.In(at(1, 1)) || s.In(at(9, 1)) {
		t.Error("in")
	}
	if s.Crossings(at(3, 3)) != 2 || s.Crossings(at(1, 3)) != 3 {
		t.Error(s.Crossings(at(3, 3)), s.Crossings(at(1, 3)))
	}
}

// P13.1

func TestFaults(t *testing.T) {
	s := box(0, 0, 9, 9)
	var many, far [][]api.Point
	for i := range 21 {
		many = append(many, box(9*i, 0, 9*i+4, 4))
	}
	for _, p := range notValid() {
		far = append(far, append(box(20, 20, 22, 22), p))
	}
	for i, c := range []struct {
		g api.Region
		f api.Fault
	}{
		{of(), api.Fault{Err: api.ErrArg}},
		{of(many...), api.Fault{Err: api.ErrLong}},
		{of(saw(200, 0, 0, 1), saw(200, 300, 0, 1), box(600, 0, 604, 4)), api.Fault{Err: api.ErrMany}},
		{of(saw(201, 0, 0, 1)), api.Fault{Err: api.ErrLong}},
		{of(s, saw(201, 300, 0, 1)), api.Fault{Err: api.ErrLong, At: 1}},
		{of(s, s[:2]), api.Fault{Err: api.ErrFew, At: 1}},
		{of(nil), api.Fault{Err: api.ErrFew}},
		{of(s, box(2, 2, 4, 4), points(5, 5, 6, 5, 6, 6, 5, 5)), api.Fault{Err: api.ErrTwice, At: 2}},
		{of(points(0, 0, 4, 0, 9, 0)), api.Fault{Err: api.ErrBack}},
		{of(points(0, 0, 4, 4, 4, 0, 0, 4), s), api.Fault{Err: api.ErrMeet}},
		{of(s, s), api.Fault{Err: api.ErrRings}},
		{of(box(20, 20, 24, 24), s, box(2, 2, 12, 4)), api.Fault{Err: api.ErrRings, At: 1}},
		{of(s, far[0]), api.Fault{Err: api.ErrArg, At: 1}},
	} {
		if x, f := slab.Build(c.g); x != nil || f != c.f || f != region.Check(c.g) {
			t.Error(i, f, "not", c.f)
		}
	}
	for _, one := range far {
		if x, f := slab.Build(of(s, one)); x != nil || f != (api.Fault{Err: api.ErrArg, At: 1}) {
			t.Error(one, f)
		}
	}
}

func TestShapes(t *testing.T) {
	for i, c := range []struct {
		g    api.Region
		want [][3]int
	}{
		{of(box(0, 0, 9, 9)), [][3]int{{0, 9, 2}}},
		{of(points(0, 0, 1, 0, 0, 1)), [][3]int{{0, 1, 2}}},
		{of(points(0, -3, 5, 1, 2, 8)), [][3]int{{-3, 1, 2}, {1, 8, 2}}},
		// A height that two points have, and one in the midst of an edge.
		{of(points(0, 0, 4, 2, 8, 0, 8, 6, 4, 4, 0, 6)), [][3]int{{0, 2, 4}, {2, 4, 2}, {4, 6, 4}}},
		{of(points(0, 0, 9, 0, 9, 4, 9, 9, 0, 9)), [][3]int{{0, 4, 2}, {4, 9, 2}}},
		// Level edges are in no slab.
		{of(points(0, 0, 3, 0, 3, 5, 6, 5, 6, 0, 9, 0, 9, 9, 0, 9)), [][3]int{{0, 5, 4}, {5, 9, 2}}},
		{of(points(0, 0, 4, 0, 9, 0, 9, 9, 5, 9, 0, 9)), [][3]int{{0, 9, 2}}},
		// Between separate parts there may be none.
		{of(box(0, 0, 4, 4), box(0, 7, 4, 9)), [][3]int{{0, 4, 2}, {4, 7, 0}, {7, 9, 2}}},
		{of(box(50, 7, 54, 9), box(0, 0, 4, 4), box(9, 0, 12, 4)), [][3]int{{0, 4, 4}, {4, 7, 0}, {7, 9, 2}}},
		// Rings that touch, an island in a hole.
		{of(box(0, 0, 4, 4), box(4, 4, 8, 8)), [][3]int{{0, 4, 2}, {4, 8, 2}}},
		{of(box(0, 0, 9, 9), box(2, 2, 7, 7), box(4, 3, 5, 6)), [][3]int{{0, 2, 2}, {2, 3, 4}, {3, 6, 6}, {6, 7, 4}, {7, 9, 2}}},
		{of(box(-most, -most, most, most), box(-1, 0, 0, 1)), [][3]int{{-most, 0, 2}, {0, 1, 4}, {1, most, 2}}},
	} {
		s := build(t, c.g)
		if s.Len() != len(c.want) {
			t.Fatal(i, s.Len())
		}
		greatest := 0
		for k, want := range c.want {
			from, to, n, e := s.Slab(k)
			if [3]int{from, to, n} != want || e != api.OK {
				t.Error(i, k, from, to, n, e)
			}
			greatest = max(greatest, n)
		}
		if s.Most() != greatest {
			t.Error(i, s.Most())
		}
		holdShape(t, s, c.g)
	}
}

// TestLimits: as many points, rings, heights and edges as there may be.
func TestLimits(t *testing.T) {
	r := rand.New(rand.NewSource(1))
	two := of(saw(200, 0, 0, 2), saw(200, 1000, 1, 2))
	s := build(t, two)
	if s.Len() != 399 || s.Most() < 390 {
		t.Error(s.Len(), s.Most())
	}
	hold(t, r, two)
	hold(t, r, of(saw(200, -100, -most, (2*most)/401)))
	var rings [][]api.Point
	for i := range 20 {
		rings = append(rings, saw(20, 40*i, i, 20))
	}
	hold(t, r, of(rings...))
	if s := build(t, of(rings...)); s.Len() != 399 {
		t.Error(s.Len())
	}
}

func TestNotMade(t *testing.T) {
	made := build(t, of(box(0, 0, 9, 9)))
	copied := *made
	again := copied
	*made = slab.Slabs{}
	var absent *slab.Slabs
	for name, s := range map[string]*slab.Slabs{"nil": absent, "zero": {}, "new": new(slab.Slabs), "copy": &copied, "copy of a copy": &again, "overwritten": made} {
		for _, p := range append(notValid(), field(-1, 10)...) {
			if s.In(p) || s.Crossings(p) != 0 {
				t.Error(name, p)
			}
		}
		if s.Len() != 0 || s.Most() != 0 {
			t.Error(name, s.Len(), s.Most())
		}
		for _, i := range []int{-1, 0, 1, math.MinInt, math.MaxInt} {
			if from, to, n, e := s.Slab(i); from != 0 || to != 0 || n != 0 || e != api.ErrNil {
				t.Error(name, i, from, to, n, e)
			}
		}
	}
}

// TestCopyLeavesSlabs: what was copied is still made.
func TestCopyLeavesSlabs(t *testing.T) {
	g := of(box(0, 0, 9, 9), box(2, 2, 4, 4))
	s := build(t, g)
	copied := *s
	if copied.Len() != 0 {
		t.Error("copy")
	}
	holdShape(t, s, g)
	holdIn(t, s, g, at(1, 3))
}

// P13.2 and P13.3

func TestSides(t *testing.T) {
	g := of(box(0, 0, 9, 9), box(2, 2, 4, 4))
	s := build(t, g)
	for _, c := range []struct {
		p api.Point
		n int
	}{
		{at(0, 0), 1}, {at(8, 0), 1}, {at(9, 0), 0}, {at(-1, 0), 2}, {at(0, -1), 0}, {at(0, 9), 0}, {at(8, 8), 1}, {at(9, 8), 0},
		{at(2, 2), 2}, {at(3, 2), 2}, {at(4, 2), 1}, {at(1, 2), 3}, {at(2, 4), 1}, {at(1, 4), 1}, {at(-1, 3), 4}, {at(-1, 4), 2}, {at(-1, 2), 4}, {at(-1, 1), 2},
		{at(-most, 3), 4}, {at(-most-1, 3), 0}, {at(math.MinInt, 3), 0}, {at(most, 3), 0}, {at(0, most), 0}, {at(0, -most), 0}, {at(0, math.MaxInt), 0}, {at(0, math.MinInt), 0},
	} {
		if got := s.Crossings(c.p); got != c.n || s.In(c.p) != (c.n%2 == 1) {
			t.Error(c, got)
		}
		holdIn(t, s, g, c.p)
	}
}

// TestSmallRings holds all rings of few points against all points around them.
func TestSmallRings(t *testing.T) {
	all := slices.Concat(fieldRings(3, 3), fieldRings(2, 4), fieldRings(2, 5), fieldRings(2, 6))
	if len(all) < 2000 {
		t.Error("too few", len(all))
	}
	for _, one := range all {
		g := of(one)
		s := build(t, g)
		holdShape(t, s, g)
		holdTheorems(t, s, g)
		for _, p := range field(-1, 4) {
			holdIn(t, s, g, p)
		}
	}
}

// TestFewRings: regions of small rings that lie apart, in one another, or touch, of other heights and slants.
func TestFewRings(t *testing.T) {
	r := rand.New(rand.NewSource(2))
	some := slices.Concat(fieldRings(2, 3), fieldRings(2, 4))
	valid := 0
	for range 4000 {
		second := some[r.Intn(len(some))]
		g := of(some[r.Intn(len(some))], box(-r.Intn(2)-1, -1-r.Intn(2), 3+r.Intn(2), 3), stretched(of(second), -1, 0).Rings[0])
		g = reordered(r, of(g.Rings[:1+r.Intn(3)]...))
		if region.Check(g).Err != api.OK {
			continue
		}
		valid++
		g = stretched(g, []int{1, 2, 7, 1 << 20, most / 24}[r.Intn(5)], r.Intn(5)-2)
		hold(t, r, g)
	}
	if valid < 1000 {
		t.Error("too few", valid)
	}
}

// TestStars: great rings, with holes and islands, edges of which pass through many slabs.
func TestStars(t *testing.T) {
	r := rand.New(rand.NewSource(3))
	found := map[bool]int{}
	regions := 0
	for range 500 {
		size := []int{30, 200, 10000, 1 << 30, most / 8}[r.Intn(5)]
		middle := at(r.Intn(2*most-8*size+1)-most+4*size, r.Intn(2*most-8*size+1)-most+4*size)
		var l [][]api.Point
		for i := range 1 + r.Intn(4) {
			n := 3 + r.Intn([]int{6, 20, 60}[r.Intn(3)])
			// Most of them lie within the one before.
			l = append(l, star(r, n, middle, size>>(2*i), 3*size>>(2*i)))
		}
		g := reordered(r, of(l...))
		if region.Check(g).Err != api.OK {
			continue
		}
		regions++
		s := build(t, g)
		holdShape(t, s, g)
		holdTheorems(t, s, g)
		for _, p := range probes(r, g) {
			found[holdIn(t, s, g, p)]++
		}
	}
	if regions < 150 || found[true] < 8000 || found[false] < 8000 {
		t.Error("too few", regions, found)
	}
}

// TestOrderDoesNotMatter: the same region has the same slabs.
func TestOrderDoesNotMatter(t *testing.T) {
	r := rand.New(rand.NewSource(4))
	for i := range 40 {
		g := of(box(-1000, -1000, 1000, 1000), saw(4+i, -500, -900, 3), saw(30, 100, -800, 7), points(-100, 900, 5, 900+i, 20, 990))
		other := reordered(r, g)
		s, u := build(t, g), build(t, other)
		if s.Len() != u.Len() || s.Most() != u.Most() {
			t.Fatal(g, other)
		}
		for k := range s.Len() + 1 {
			a, b, n, e := s.Slab(k)
			if c, d, m, f := u.Slab(k); a != c || b != d || n != m || e != f {
				t.Fatal(g, other, k)
			}
		}
		for _, p := range probes(r, g) {
			if s.Crossings(p) != u.Crossings(p) || s.In(p) != u.In(p) {
				t.Fatal(g, other, p)
			}
		}
	}
}

// What holds everywhere

func deep(l [][]api.Point) [][]api.Point {
	var other [][]api.Point
	for _, one := range l {
		other = append(other, slices.Clone(one))
	}
	return other
}

func equal(l, m [][]api.Point) bool { return slices.EqualFunc(l, m, slices.Equal[[]api.Point]) }

// TestArgument: the region is not changed, nor what lies behind its rings and their points, and it may change when it has been built from.
func TestArgument(t *testing.T) {
	behind := append(ring.From(box(0, 0, 9, 9), 1), at(3, 3), at(99, 99))
	all := [][]api.Point{behind[:4], append(box(2, 2, 4, 4), at(100, -100))[:4], box(5, 5, 6, 6), box(50, 50, 60, 60), nil}
	kept, keptBehind := deep(all), slices.Clone(behind)
	g := of(all[:3]...)
	s := build(t, g)
	given := of(deep(g.Rings)...)
	ask := func() {
		t.Helper()
		holdShape(t, s, given)
		for _, p := range append(field(-1, 10), at(55, 55), at(99, 99)) {
			holdIn(t, s, given, p)
		}
	}
	ask()
	if !equal(all, kept) || !slices.Equal(behind, keptBehind) || all[1][:5][4] != at(100, -100) {
		t.Error("changed", all, behind)
	}
	for _, one := range all {
		clear(one)
	}
	clear(all)
	ask()
}

// TestAskedAtOnce: those who ask at the same time get what each of them would get alone.
func TestAskedAtOnce(t *testing.T) {
	g := of(saw(200, 0, 0, 2), saw(200, 1000, 1, 2))
	s := build(t, g)
	var all sync.WaitGroup
	wrong := make([]bool, 8)
	for i := range wrong {
		all.Go(func() {
			for k := range 300 {
				p := at((i*31+k*7)%1250, (i*57+k*13)%900)
				_, _, n, e := s.Slab(k)
				wrong[i] = wrong[i] || s.Crossings(p) != modelCrossings(p, g) || s.In(p) != region.In(p, g) || n > s.Most() || e != api.OK
			}
		})
	}
	all.Wait()
	if slices.Contains(wrong, true) {
		t.Error(wrong)
	}
}

// TestSlabsAreApart: slabs are what they are, whatever others there are.
func TestSlabsAreApart(t *testing.T) {
	one, other := of(box(0, 0, 9, 9), box(2, 2, 4, 4)), of(points(0, 0, 5, 1, 9, 7, 2, 9))
	s := build(t, one)
	u := build(t, other)
	if _, f := slab.Build(of()); f.Err != api.ErrArg {
		t.Error(f)
	}
	for _, p := range field(-1, 10) {
		holdIn(t, s, one, p)
		holdIn(t, u, other, p)
	}
	holdShape(t, s, one)
	holdShape(t, u, other)
}
