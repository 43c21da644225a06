package index_test

import (
	"math"
	"math/rand"
	"slices"
	"sync"
	"testing"

	"apportion/api"
	"apportion/index"
	"apportion/point"
	"apportion/region"
	"apportion/ring"
)

// most is the greatest coordinate.
const most = 1<<40 - 1

func at(x, y int) api.Point { return api.Point{X: x, Y: y} }

// points are those of the given coordinates, X and Y in turn.
func points(n ...int) []api.Point {
	var l []api.Point
	for i := 0; i < len(n); i += 2 {
		l = append(l, at(n[i], n[i+1]))
	}
	return l
}

func of(l ...[]api.Point) api.Region { return api.Region{Rings: l} }

// box is the ring around the points from a b to c d.
func box(a, b, c, d int) []api.Point { return points(a, b, c, b, c, d, a, d) }

// row are n boxes of 4 by 4, each of which begins so far to the right of the one before.
func row(n, step int) []api.Region {
	var l []api.Region
	for i := range n {
		l = append(l, of(box(step*i, 0, step*i+4, 4)))
	}
	return l
}

// saw is a valid ring of n points: its teeth stand side by side, from x on.
func saw(n, x int) []api.Point {
	l := points(x+n, -1, x-1, -2)
	for i := range n - 2 {
		l = append(l, at(x+i, i+i%2*1000))
	}
	return l
}

// field are the points from low low to high high.
func field(low, high int) []api.Point {
	var l []api.Point
	for y := low; y <= high; y++ {
		for x := low; x <= high; x++ {
			l = append(l, at(x, y))
		}
	}
	return l
}

// notValid are points beyond the limit.
func notValid() []api.Point {
	var l []api.Point
	for _, n := range []int{most + 1, -most - 1, 1 << 60, math.MaxInt, math.MinInt} {
		l = append(l, at(n, 0), at(0, n), at(n, 2), at(2, n), at(n, n), at(n, most), at(-most, n))
	}
	return l
}

// around are points at those of a region, beside them, between them and anywhere in its box.
func around(r *rand.Rand, g api.Region) []api.Point {
	var l []api.Point
	for _, one := range g.Rings {
		for i, p := range one {
			q := one[(i+1)%len(one)]
			n := r.Intn(9)
			between := at(p.X+(q.X-p.X)/8*n, p.Y+(q.Y-p.Y)/8*n)
			l = append(l, p, at(p.X-1, p.Y), at(p.X+1, p.Y), at(p.X, p.Y-1), at(p.X, p.Y+1), between, at(between.X-1, between.Y))
		}
	}
	x, _ := region.Box(g)
	for range 10 {
		l = append(l, at(x.Low.X-1+r.Intn(x.High.X-x.Low.X+2), x.Low.Y-1+r.Intn(x.High.Y-x.Low.Y+2)))
	}
	return append(l, x.Low, x.High, at(x.High.X-1, x.High.Y-1), at(x.Low.X-1, x.Low.Y), at(x.Low.X, x.High.Y))
}

func build(t *testing.T, l []api.Region) *index.Index {
	t.Helper()
	x, f := index.Build(l)
	if f != (api.Fault{}) || x == nil {
		t.Fatal(l, f)
	}
	return x
}

func modelAt(l []api.Region, p api.Point) []int {
	var found []int
	for i, g := range l {
		if region.In(p, g) {
			found = append(found, i)
		}
	}
	return found
}

func modelNear(l []api.Region, p api.Point) []int {
	var found []int
	for i, g := range l {
		if b, _ := region.Box(g); point.In(p, b) {
			found = append(found, i)
		}
	}
	return found
}

// hold asks for everything about a point, and returns where it is.
func hold(t *testing.T, x *index.Index, l []api.Region, p api.Point) []int {
	t.Helper()
	found, near := x.At(p), x.Near(p)
	if !slices.Equal(found, modelAt(l, p)) {
		t.Fatal(l, "at", p, found, "not", modelAt(l, p))
	}
	if !slices.Equal(near, modelNear(l, p)) {
		t.Fatal(l, "near", p, near, "not", modelNear(l, p))
	}
	for i := range l {
		in, e := x.In(i, p)
		if e != api.OK || in != slices.Contains(found, i) || in && !slices.Contains(near, i) {
			t.Fatal(l, "in", i, p, in, e)
		}
	}
	for _, i := range []int{-1, -2, len(l), len(l) + 1, 64, math.MinInt, math.MaxInt} {
		if i >= 0 && i < len(l) {
			continue
		}
		if in, e := x.In(i, p); in || e != api.ErrMissing {
			t.Fatal(len(l), "in", i, p, in, e)
		}
	}
	return found
}

func TestExamples(t *testing.T) {
	x := build(t, []api.Region{of(box(0, 0, 4, 4)), of(box(4, 0, 8, 4)), of(box(0, 0, 8, 8))})
	for _, c := range []struct {
		p    api.Point
		want []int
	}{{at(1, 1), []int{0, 2}}, {at(4, 1), []int{1, 2}}, {at(5, 5), []int{2}}, {at(8, 8), nil}} {
		if got := x.At(c.p); !slices.Equal(got, c.want) {
			t.Error(c.p, got)
		}
	}
	if got := x.Near(at(8, 8)); !slices.Equal(got, []int{2}) {
		t.Error(got)
	}
	for _, c := range []struct {
		i  int
		p  api.Point
		in bool
		e  api.Errno
	}{{1, at(4, 1), true, api.OK}, {0, at(4, 1), false, api.OK}, {3, at(1, 1), false, api.ErrMissing}} {
		if in, e := x.In(c.i, c.p); in != c.in || e != c.e {
			t.Error(c, in, e)
		}
	}
	if x, f := index.Build(row(65, 5)); x != nil || f != (api.Fault{Err: api.ErrLong}) {
		t.Error(f)
	}
	if x, f := index.Build([]api.Region{of(box(0, 0, 1, 1)), of(points(0, 0, 1, 1))}); x != nil || f != (api.Fault{Err: api.ErrFew, At: 1}) {
		t.Error(f)
	}
}

// P14.1

// faulty are regions that are not valid, each for another reason: mostly its first ring is a good one.
func faulty() map[api.Errno]api.Region {
	s := box(0, 0, 9, 9)
	return map[api.Errno]api.Region{
		api.ErrArg:   of(s, points(1, 1, 2, 1, 2, most+1)),
		api.ErrLong:  of(s, saw(201, 100)),
		api.ErrFew:   of(s, box(2, 2, 3, 3), points(4, 4, 5, 5)),
		api.ErrTwice: of(s, points(1, 1, 2, 1, 2, 2, 1, 1)),
		api.ErrBack:  of(s, points(1, 1, 3, 1, 2, 1)),
		api.ErrMeet:  of(s, points(1, 1, 4, 4, 4, 1, 1, 4)),
		api.ErrRings: of(box(20, 20, 24, 24), s, box(2, 2, 12, 4)),
		api.ErrMany:  of(saw(200, 0), saw(200, 300), s),
	}
}

func TestFaults(t *testing.T) {
	for e, g := range faulty() {
		if f := region.Check(g); f.Err != e {
			t.Fatal(g, f)
		}
		// Wherever it stands: the place in the list counts, not the ring.
		for n := 1; n <= 64; n += 7 {
			for i := range n {
				l := row(n, 5)
				l[i] = g
				if x, f := index.Build(l); x != nil || f != (api.Fault{Err: e, At: i}) {
					t.Error(n, i, f, "not", e)
				}
			}
		}
	}
	var many [][]api.Point
	for _, g := range row(21, 5) {
		many = append(many, g.Rings[0])
	}
	for i, c := range []struct {
		g api.Region
		e api.Errno
	}{{of(), api.ErrArg}, {of([][]api.Point{}...), api.ErrArg}, {of(nil), api.ErrFew}, {of(many...), api.ErrLong}, {of(many[:20]...), api.OK}} {
		f := api.Fault{Err: c.e}
		if c.e != api.OK {
			f.At = 2
		}
		if x, got := index.Build([]api.Region{of(box(0, 0, 1, 1)), of(box(0, 0, 1, 1)), c.g}); got != f || (x == nil) != (c.e != api.OK) {
			t.Error(i, got)
		}
	}
}

// TestFirstFault: of two regions that are not valid the first one counts, whatever is wrong with them.
func TestFirstFault(t *testing.T) {
	for e, g := range faulty() {
		for _, h := range faulty() {
			for _, c := range [][2]int{{0, 1}, {0, 63}, {5, 40}, {62, 63}, {31, 32}} {
				l := row(64, 5)
				l[c[0]], l[c[1]] = g, h
				if x, f := index.Build(l); x != nil || f != (api.Fault{Err: e, At: c[0]}) {
					t.Error(c, f, "not", e)
				}
			}
		}
	}
}

// TestTooMany: that there are too many counts first.
func TestTooMany(t *testing.T) {
	for _, n := range []int{65, 66, 128, 1001} {
		l := row(n, 5)
		if x, f := index.Build(l); x != nil || f != (api.Fault{Err: api.ErrLong}) {
			t.Error(n, f)
		}
		for _, g := range faulty() {
			for _, i := range []int{0, 1, 63, 64} {
				l := slices.Clone(l)
				l[i] = g
				if x, f := index.Build(l); x != nil || f != (api.Fault{Err: api.ErrLong}) {
					t.Error(n, i, f)
				}
			}
		}
		if x, f := index.Build(make([]api.Region, n)); x != nil || f != (api.Fault{Err: api.ErrLong}) {
			t.Error(n, f)
		}
	}
}

func TestLen(t *testing.T) {
	for n := range 65 {
		l := row(n, 3)
		x := build(t, l)
		if x.Len() != n {
			t.Error(n, x.Len())
		}
		for _, p := range []api.Point{at(0, 0), at(3*n, 2), at(3*n/2, 3), at(3*n+1, 4), at(-1, 0)} {
			hold(t, x, l, p)
		}
		if x.Len() != n {
			t.Error("changed", n, x.Len())
		}
	}
}

func TestNoRegions(t *testing.T) {
	for _, l := range [][]api.Region{nil, {}} {
		x := build(t, l)
		if x.Len() != 0 {
			t.Error(x.Len())
		}
		for _, p := range append(notValid(), field(-1, 1)...) {
			if len(hold(t, x, l, p)) != 0 || len(x.Near(p)) != 0 {
				t.Error(p)
			}
		}
	}
}

func TestNotMade(t *testing.T) {
	made := build(t, row(3, 2))
	made.At(at(1, 1))
	copied := *made
	again := copied
	*made = index.Index{}
	var absent *index.Index
	for name, x := range map[string]*index.Index{"nil": absent, "zero": {}, "new": new(index.Index), "copy": &copied, "copy of a copy": &again, "overwritten": made} {
		if x.Len() != 0 {
			t.Error(name, x.Len())
		}
		for _, p := range append(notValid(), field(-1, 5)...) {
			if len(x.At(p)) != 0 || len(x.Near(p)) != 0 {
				t.Error(name, p, x.At(p), x.Near(p))
			}
			for _, i := range []int{0, 1, 2, 3, -1, math.MinInt, math.MaxInt} {
				if in, e := x.In(i, p); in || e != api.ErrNil {
					t.Error(name, i, p, in, e)
				}
			}
		}
	}
}

// TestCopyLeavesIndex: what was copied is still made.
func TestCopyLeavesIndex(t *testing.T) {
	l := row(3, 2)
	x := build(t, l)
	copied := *x
	if copied.Len() != 0 || len(copied.At(at(1, 1))) != 0 {
		t.Error("copy")
	}
	for _, p := range field(-1, 9) {
		hold(t, x, l, p)
	}
}

// P14.2

// TestBorders: the lower and the left side of a box belong to it, and to what is near also the upper and the right one.
func TestBorders(t *testing.T) {
	l := []api.Region{of(box(0, 0, 4, 4)), of(box(4, 0, 8, 4)), of(box(0, 4, 4, 8)), of(box(4, 4, 8, 8)), of(box(2, 2, 6, 6)), of(box(0, 0, 8, 8))}
	x := build(t, l)
	for _, c := range []struct {
		p        api.Point
		at, near []int
	}{
		{at(0, 0), []int{0, 5}, []int{0, 5}},
		{at(3, 0), []int{0, 5}, []int{0, 5}},
		{at(4, 0), []int{1, 5}, []int{0, 1, 5}},
		{at(0, 4), []int{2, 5}, []int{0, 2, 5}},
		{at(2, 2), []int{0, 4, 5}, []int{0, 4, 5}},
		{at(4, 4), []int{3, 4, 5}, []int{0, 1, 2, 3, 4, 5}},
		{at(6, 6), []int{3, 5}, []int{3, 4, 5}},
		{at(6, 3), []int{1, 5}, []int{1, 4, 5}},
		{at(8, 0), nil, []int{1, 5}},
		{at(0, 8), nil, []int{2, 5}},
		{at(8, 8), nil, []int{3, 5}},
		{at(9, 8), nil, nil}, {at(8, 9), nil, nil}, {at(-1, 0), nil, nil}, {at(0, -1), nil, nil},
	} {
		if got := x.At(c.p); !slices.Equal(got, c.at) {
			t.Error("at", c.p, got)
		}
		if got := x.Near(c.p); !slices.Equal(got, c.near) {
			t.Error("near", c.p, got)
		}
	}
	for _, p := range append(notValid(), field(-2, 10)...) {
		hold(t, x, l, p)
	}
}

// TestNearIsNotIn: holes, bays and gaps between parts are near, but not in.
func TestNearIsNotIn(t *testing.T) {
	l := []api.Region{
		of(box(0, 0, 9, 9), box(2, 2, 7, 7)),
		of(box(0, 0, 9, 9), box(1, 1, 8, 8), box(3, 3, 6, 6)),
		of(points(0, 0, 9, 0, 9, 9, 7, 9, 7, 2, 2, 2, 2, 9, 0, 9)),
		of(box(0, 0, 2, 2), box(7, 7, 9, 9)),
		of(points(0, 0, 9, 0, 0, 9)),
	}
	x := build(t, l)
	for _, c := range []struct {
		p    api.Point
		want []int
	}{{at(4, 4), []int{1, 4}}, {at(1, 1), []int{0, 2, 3, 4}}, {at(7, 7), []int{0, 2, 3}}, {at(2, 7), []int{0}}, {at(3, 6), nil}, {at(6, 6), nil}, {at(0, 5), []int{0, 1, 2, 4}}, {at(8, 8), []int{0, 1, 2, 3}}} {
		if got := x.At(c.p); !slices.Equal(got, c.want) {
			t.Error(c.p, got)
		}
		if got := x.Near(c.p); len(got) != 5 {
			t.Error(c.p, got)
		}
	}
	for _, p := range append(notValid(), field(-2, 11)...) {
		hold(t, x, l, p)
	}
}

// TestSameRegions: the same region may stand there as often as the list allows.
func TestSameRegions(t *testing.T) {
	g := of(box(0, 0, 9, 9), box(2, 2, 4, 4))
	l := slices.Repeat([]api.Region{g}, 64)
	x := build(t, l)
	for _, p := range field(-1, 10) {
		hold(t, x, l, p)
	}
	if len(x.At(at(1, 1))) != 64 || len(x.At(at(3, 3))) != 0 || len(x.Near(at(3, 3))) != 64 {
		t.Error(x.At(at(1, 1)), x.At(at(3, 3)), x.Near(at(3, 3)))
	}
}

// TestNested: whatever the order of the list, the indices ascend.
func TestNested(t *testing.T) {
	r := rand.New(rand.NewSource(1))
	for range 20 {
		sizes := r.Perm(64)
		var l []api.Region
		for _, n := range sizes {
			l = append(l, of(box(-n-1, -n-1, n+1, n+1)))
		}
		x := build(t, l)
		for n := -66; n <= 66; n++ {
			hold(t, x, l, at(n, r.Intn(133)-66))
			hold(t, x, l, at(n, n))
		}
		if got := x.At(at(0, 0)); len(got) != 64 || !slices.IsSorted(got) {
			t.Error(got)
		}
	}
}

// TestFarEnds: regions at the greatest coordinates there are.
func TestFarEnds(t *testing.T) {
	l := []api.Region{
		of(box(-most, -most, most, most)), of(box(most-4, most-4, most, most)), of(box(-most, -most, 4-most, 4-most)), of(box(most-1, -most, most, 1-most)),
		of(points(-most, -most, most, -most, most, most)), of(points(-most, most, most, most, 0, -most)), of(points(-most, 0, -1, 0, -most, 1)), of(box(-most, -most, most, most), box(-1, -1, 1, 1)),
	}
	x := build(t, l)
	ends := notValid()
	for _, n := range []int{-most - 1, -most, 1 - most, 3 - most, 4 - most, -1, 0, 1, most - 5, most - 4, most - 1, most, most + 1} {
		for _, m := range []int{-most - 1, -most, 1 - most, 4 - most, -1, 0, 1, most - 4, most - 1, most, most + 1} {
			ends = append(ends, at(n, m))
		}
	}
	for _, p := range ends {
		hold(t, x, l, p)
	}
	if got := x.At(at(-most, -most)); !slices.Equal(got, []int{0, 2, 4, 7}) {
		t.Error(got)
	}
	if got := x.Near(at(most, most)); !slices.Equal(got, []int{0, 1, 4, 5, 7}) || len(x.At(at(most, most))) != 0 {
		t.Error(got)
	}
	for _, p := range notValid() {
		if len(x.Near(p)) != 0 {
			t.Error(p)
		}
	}
}

// anyRegion is a region of a few rings with few points, which lie from low on.
func anyRegion(r *rand.Rand, low api.Point, size int) api.Region {
	for {
		var l [][]api.Point
		for range 1 + r.Intn(3) {
			var one []api.Point
			for range 3 + r.Intn(4) {
				one = append(one, at(low.X+r.Intn(size), low.Y+r.Intn(size)))
			}
			l = append(l, one)
		}
		if g := of(l...); region.Check(g).Err == api.OK {
			return g
		}
	}
}

// anyRegions are regions of the same kind, great and small, over and beside one another.
func anyRegions(r *rand.Rand, n int) []api.Region {
	size := []int{8, 20, 1000, 1 << 30, 2 * most / 3}[r.Intn(5)]
	low := at(r.Intn(2*most-3*size+2)-most, r.Intn(2*most-3*size+2)-most)
	var l []api.Region
	for range n {
		own := max(4, size>>r.Intn(4))
		l = append(l, anyRegion(r, at(low.X+r.Intn(2*size), low.Y+r.Intn(2*size)), own))
	}
	return l
}

func TestAgainstScan(t *testing.T) {
	r := rand.New(rand.NewSource(2))
	found, near := 0, 0
	for range 60 {
		l := anyRegions(r, 1+r.Intn(64))
		x := build(t, l)
		var probes []api.Point
		for range 5 {
			probes = append(probes, around(r, l[r.Intn(len(l))])...)
		}
		for _, p := range probes {
			found += len(hold(t, x, l, p))
			near += len(x.Near(p))
		}
	}
	if found < 5000 || near < 2*found {
		t.Error("too few", found, near)
	}
}

// TestLimits: as many regions with as many points as there may be.
func TestLimits(t *testing.T) {
	r := rand.New(rand.NewSource(3))
	var l []api.Region
	for i := range 64 {
		l = append(l, of(saw(200, 100*i), saw(200, 100*i+300)))
	}
	x := build(t, l)
	if x.Len() != 64 {
		t.Error(x.Len())
	}
	for range 400 {
		p := l[r.Intn(64)].Rings[r.Intn(2)][r.Intn(200)]
		hold(t, x, l, at(p.X+r.Intn(3)-1, p.Y-r.Intn(600)))
	}
}

// TestOrderOfQuestions: an answer does not hang on what was asked before, or how often.
func TestOrderOfQuestions(t *testing.T) {
	r := rand.New(rand.NewSource(4))
	for range 30 {
		l := anyRegions(r, 12)
		var probes []api.Point
		for _, g := range l {
			probes = append(probes, around(r, g)...)
		}
		x := build(t, l)
		for range 300 {
			p, i := probes[r.Intn(len(probes))], r.Intn(len(l))
			switch r.Intn(4) {
			case 0:
				if got := x.At(p); !slices.Equal(got, modelAt(l, p)) {
					t.Fatal(l, p, got)
				}
			case 1:
				if got := x.Near(p); !slices.Equal(got, modelNear(l, p)) {
					t.Fatal(l, p, got)
				}
			case 2:
				if in, e := x.In(i, p); in != region.In(p, l[i]) || e != api.OK {
					t.Fatal(l, i, p, in, e)
				}
			case 3:
				if _, e := x.In(i-len(l), p); e != api.ErrMissing || x.Len() != len(l) {
					t.Fatal(l, i, e, x.Len())
				}
			}
		}
	}
}

// P14.3

// net is where the lines of a net of cells meet, in the midst of their sides, and in the midst of the cells. Its outer sides are straight, all others crooked.
type net struct {
	cells, half int
	low         api.Point
	knots       map[api.Point]api.Point
}

func newNet(r *rand.Rand, cells, half int) net {
	room := 2*most - 2*cells*half + 1
	n := net{cells: cells, half: half, low: at(r.Intn(room)-most, r.Intn(room)-most), knots: map[api.Point]api.Point{}}
	sway := func(k int) int {
		if k == 0 || k == 2*cells {
			return 0
		}
		return r.Intn(2*(half/3)+1) - half/3
	}
	for _, k := range field(0, 2*cells) {
		n.knots[k] = at(n.low.X+half*k.X+sway(k.X), n.low.Y+half*k.Y+sway(k.Y))
	}
	return n
}

func (n net) box() api.Box {
	return api.Box{Low: n.low, High: at(n.low.X+2*n.half*n.cells, n.low.Y+2*n.half*n.cells)}
}

// cell is the ring around a cell.
func (n net) cell(c api.Point) []api.Point {
	var l []api.Point
	for _, by := range points(0, 0, 1, 0, 2, 0, 2, 1, 2, 2, 1, 2, 0, 2, 0, 1) {
		l = append(l, n.knots[at(2*c.X+by.X, 2*c.Y+by.Y)])
	}
	return l
}

// island is a small ring in the midst of a cell.
func (n net) island(c api.Point) []api.Point {
	m, far := n.knots[at(2*c.X+1, 2*c.Y+1)], n.half/4
	return points(m.X-far, m.Y-far, m.X+far, m.Y-far/2, m.X, m.Y+far)
}

// sideBySide are regions that fill the net's box: each has some cells of one colour, which touch at corners only, and maybe islands that are not its own.
func (n net) sideBySide(r *rand.Rand) []api.Region {
	groups := 4 + r.Intn(8)
	l := make([]api.Region, 2*groups)
	for _, c := range field(0, n.cells-1) {
		own := &l[(c.X+c.Y)%2*groups+r.Intn(groups)]
		own.Rings = append(own.Rings, n.cell(c))
		if r.Intn(4) == 0 {
			own.Rings = append(own.Rings, n.island(c))
			l = append(l, of(n.island(c)))
		}
	}
	l = slices.DeleteFunc(l, func(g api.Region) bool { return len(g.Rings) == 0 })
	for i, g := range l {
		l[i] = reordered(r, g)
	}
	r.Shuffle(len(l), func(i, j int) { l[i], l[j] = l[j], l[i] })
	return l
}

// reordered is a region with the same rings, in any order, each turned in any way.
func reordered(r *rand.Rand, g api.Region) api.Region {
	var l [][]api.Point
	for _, i := range r.Perm(len(g.Rings)) {
		one := ring.From(g.Rings[i], r.Intn(len(g.Rings[i])))
		if r.Intn(2) == 0 {
			one = ring.Turned(one)
		}
		l = append(l, one)
	}
	return of(l...)
}

// probes are points at and around the knots, between them, and some others.
func (n net) probes(r *rand.Rand) []api.Point {
	l := notValid()
	for _, k := range field(0, 2*n.cells) {
		p := n.knots[k]
		l = append(l, p, at(p.X-1, p.Y), at(p.X+1, p.Y), at(p.X, p.Y-1), at(p.X, p.Y+1))
		for _, to := range []api.Point{at(k.X+1, k.Y), at(k.X, k.Y+1)} {
			if q, there := n.knots[to]; there {
				m := r.Intn(9)
				between := at(p.X+(q.X-p.X)/8*m, p.Y+(q.Y-p.Y)/8*m)
				l = append(l, between, at(between.X+1, between.Y), at(between.X, between.Y+1))
			}
		}
	}
	for range 100 {
		l = append(l, at(n.low.X-2+r.Intn(2*n.half*n.cells+4), n.low.Y-2+r.Intn(2*n.half*n.cells+4)))
	}
	return l
}

// holdOnce checks that each point of the box is in exactly one region, and no other point in any.
func holdOnce(t *testing.T, x *index.Index, l []api.Region, in api.Box, probes []api.Point) {
	t.Helper()
	for _, p := range probes {
		want := 0
		if point.In(p, in) {
			want = 1
		}
		if found := hold(t, x, l, p); len(found) != want {
			t.Fatal(l, p, found)
		}
	}
}

func TestSideBySide(t *testing.T) {
	r := rand.New(rand.NewSource(5))
	regions, rings := 0, 0
	for i := range 60 {
		cells := 1 + r.Intn(6)
		n := newNet(r, cells, []int{4, 6, 50, 1 << 20, most / cells}[i%5])
		l := n.sideBySide(r)
		for _, g := range l {
			regions++
			rings += len(g.Rings)
		}
		holdOnce(t, build(t, l), l, n.box(), n.probes(r))
	}
	if regions < 700 || rings < 1500 {
		t.Error("too few", regions, rings)
	}
}

// TestFullNet: as many regions side by side as there may be.
func TestFullNet(t *testing.T) {
	r := rand.New(rand.NewSource(6))
	for _, half := range []int{4, 9, 100, most / 8} {
		n := newNet(r, 8, half)
		var l []api.Region
		for _, c := range field(0, 7) {
			l = append(l, of(n.cell(c)))
		}
		x := build(t, l)
		holdOnce(t, x, l, n.box(), n.probes(r))
		for i, c := range field(0, 7) {
			if got := x.At(n.knots[at(2*c.X+1, 2*c.Y+1)]); !slices.Equal(got, []int{i}) {
				t.Error(half, c, got)
			}
		}
	}
}

// TestOrderDoesNotMatter: in another order, each turned in any way, the same regions contain a point.
func TestOrderDoesNotMatter(t *testing.T) {
	r := rand.New(rand.NewSource(7))
	for range 40 {
		l := anyRegions(r, 2+r.Intn(30))
		places := r.Perm(len(l))
		other := make([]api.Region, len(l))
		for i, to := range places {
			other[to] = reordered(r, l[i])
		}
		moved := func(found []int) []int {
			var all []int
			for _, i := range found {
				all = append(all, places[i])
			}
			slices.Sort(all)
			return all
		}
		x, y := build(t, l), build(t, other)
		for range 5 {
			for _, p := range around(r, l[r.Intn(len(l))]) {
				if !slices.Equal(moved(x.At(p)), y.At(p)) || !slices.Equal(moved(x.Near(p)), y.Near(p)) {
					t.Fatal(l, places, p, x.At(p), y.At(p))
				}
				for i, to := range places {
					if a, _ := x.In(i, p); a != slices.Contains(y.At(p), to) {
						t.Fatal(l, i, p, a)
					}
				}
			}
		}
	}
}

// What holds everywhere

func deep(l []api.Region) []api.Region {
	var all []api.Region
	for _, g := range l {
		var other api.Region
		for _, one := range g.Rings {
			other.Rings = append(other.Rings, slices.Clone(one))
		}
		all = append(all, other)
	}
	return all
}

func equal(l, m []api.Region) bool {
	return slices.EqualFunc(l, m, func(a, b api.Region) bool {
		return slices.EqualFunc(a.Rings, b.Rings, slices.Equal[[]api.Point])
	})
}

// TestArgument: the list is not changed, nor what lies behind it, its rings and their points; and it may change when it has been built from, examined or not.
func TestArgument(t *testing.T) {
	for _, askedBefore := range []bool{false, true} {
		behind := append(box(0, 0, 9, 9), at(3, 3), at(99, 99))
		rings := [][]api.Point{behind[:4], append(box(2, 2, 4, 4), at(100, -100))[:4], box(5, 5, 6, 6)}
		all := []api.Region{{Rings: rings[:2]}, of(box(0, 0, 5, 5)), of(points(1, 1, 8, 2, 3, 9)), of(box(50, 50, 60, 60)), {}}
		kept, keptBehind, keptRings := deep(all), slices.Clone(behind), deep([]api.Region{of(rings...)})
		x := build(t, all[:3])
		given := deep(all[:3])
		ask := func() {
			t.Helper()
			for _, p := range append(field(-1, 10), at(55, 55), at(99, 99)) {
				hold(t, x, given, p)
			}
		}
		if askedBefore {
			ask()
		}
		if !equal(all, kept) || !slices.Equal(behind, keptBehind) || !equal(keptRings, []api.Region{of(rings...)}) || all[0].Rings[1][:5][4] != at(100, -100) {
			t.Error("changed", all, behind)
		}
		for _, g := range all {
			for _, one := range g.Rings {
				clear(one)
			}
			clear(g.Rings)
		}
		clear(all)
		ask()
		if x.Len() != 3 {
			t.Error(x.Len())
		}
	}
}

// TestResultsAreNew: whoever changes a list that he got, or appends to it, changes no other one.
func TestResultsAreNew(t *testing.T) {
	l := row(20, 0)
	x := build(t, l)
	for _, ask := range []func(api.Point) []int{x.At, x.Near} {
		one, other := ask(at(1, 1)), ask(at(1, 1))
		clear(one[:cap(one)])
		_ = append(one, 7, 8, 9)
		if len(other) != 20 || !slices.Equal(other, modelAt(l, at(1, 1))) {
			t.Error(other)
		}
		hold(t, x, l, at(1, 1))
	}
}

// TestAskedAtOnce: those who ask at the same time get what each of them would get alone, also if nobody has asked before.
func TestAskedAtOnce(t *testing.T) {
	r := rand.New(rand.NewSource(8))
	for round := range 20 {
		l := anyRegions(r, 30)
		probes := around(r, l[round])
		x := build(t, l)
		wrong := make([]bool, 8)
		var all sync.WaitGroup
		for i := range wrong {
			all.Go(func() {
				for k, p := range probes {
					which := (i + k) % 30
					in, e := x.In(which, p)
					wrong[i] = wrong[i] || e != api.OK || in != region.In(p, l[which])
					wrong[i] = wrong[i] || !slices.Equal(x.At(p), modelAt(l, p)) || !slices.Equal(x.Near(p), modelNear(l, p)) || x.Len() != 30
				}
			})
		}
		all.Wait()
		if slices.Contains(wrong, true) {
			t.Error(round, wrong)
		}
	}
}

// TestIndexesAreApart: an index is what it is, whatever others there are, of the same regions or not.
func TestIndexesAreApart(t *testing.T) {
	l, m := row(5, 2), []api.Region{of(box(0, 0, 9, 9), box(2, 2, 4, 4)), of(points(0, 0, 5, 1, 9, 7, 2, 9))}
	x, y, again := build(t, l), build(t, m), build(t, m)
	if _, f := index.Build([]api.Region{{}}); f.Err != api.ErrArg {
		t.Error(f)
	}
	for _, p := range field(-1, 12) {
		hold(t, x, l, p)
		hold(t, y, m, p)
		hold(t, again, m, p)
	}
}
