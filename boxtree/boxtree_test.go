package boxtree_test

import (
	"math"
	"math/big"
	"math/rand"
	"slices"
	"sort"
	"sync"
	"testing"

	"apportion/api"
	"apportion/boxtree"
)

func at(x, y int) api.Point { return api.Point{X: x, Y: y} }

func box(a, b, c, d int) api.Box { return api.Box{Low: at(a, b), High: at(c, d)} }

// everywhere contains all points but those with a coordinate that is the greatest int.
func everywhere() api.Box { return box(math.MinInt, math.MinInt, math.MaxInt, math.MaxInt) }

// edges are numbers next to which something may overflow, change its sign or be rounded.
func edges() []int {
	const most = 1<<40 - 1
	return []int{
		math.MinInt, math.MinInt + 1, math.MinInt + 2, math.MinInt/2 - 1, math.MinInt / 2, math.MinInt/2 + 1, -most - 1, -most, -3, -2, -1,
		0, 1, 2, 3, most, most + 1, math.MaxInt/2 - 1, math.MaxInt / 2, math.MaxInt/2 + 1, math.MaxInt/2 + 2, math.MaxInt - 2, math.MaxInt - 1, math.MaxInt,
	}
}

// field are the points from 0 0 to n-1 n-1.
func field(n int) []api.Point {
	var l []api.Point
	for y := range n {
		for x := range n {
			l = append(l, at(x, y))
		}
	}
	return l
}

// fieldBoxes are the boxes between all points of field(n), those without points among them.
func fieldBoxes(n int) []api.Box {
	var l []api.Box
	for _, low := range field(n) {
		for _, high := range field(n) {
			l = append(l, api.Box{Low: low, High: high})
		}
	}
	return l
}

// tiles are n boxes that lie side by side, so many in a row.
func tiles(n, inRow int) []api.Box {
	var l []api.Box
	for i := range n {
		x, y := i%inRow*4, i/inRow*4
		l = append(l, box(x, y, x+4, y+4))
	}
	return l
}

// numbers is a way of choosing coordinates.
type numbers func(r *rand.Rand) int

func ways() []numbers {
	within := func(low, high int) numbers {
		return func(r *rand.Rand) int { return low + r.Intn(high-low+1) }
	}
	return []numbers{
		within(0, 1), within(0, 3), within(-4, 4), within(-100, 100), within(-1<<40, 1<<40),
		func(r *rand.Rand) int { return edges()[r.Intn(len(edges()))] },
		func(r *rand.Rand) int { return int(r.Uint64()) },
		func(r *rand.Rand) int { return math.MaxInt - r.Intn(4) },
		func(r *rand.Rand) int { return math.MinInt + r.Intn(4) },
	}
}

// anyBox is a box of such numbers; mostly, but not always, one with points.
func anyBox(r *rand.Rand, n numbers) api.Box {
	x := box(n(r), n(r), n(r), n(r))
	if r.Intn(5) != 0 {
		x = box(min(x.Low.X, x.High.X), min(x.Low.Y, x.High.Y), max(x.Low.X, x.High.X), max(x.Low.Y, x.High.Y))
	}
	return x
}

// anyBoxes are boxes, some of which may stand there more than once.
func anyBoxes(r *rand.Rand, count int, n numbers) []api.Box {
	var l []api.Box
	for i := range count {
		if i > 0 && r.Intn(6) == 0 {
			l = append(l, l[r.Intn(i)])
		} else {
			l = append(l, anyBox(r, n))
		}
	}
	return l
}

func build(t *testing.T, l []api.Box) *boxtree.Tree {
	t.Helper()
	given := slices.Clone(l)
	x, e := boxtree.Build(l)
	if e != api.OK || x == nil || !slices.Equal(given, l) {
		t.Fatal(len(l), e)
	}
	return x
}

// contains tells in the document's words whether a point is in a box.
func contains(x api.Box, p api.Point) bool {
	return p.X >= x.Low.X && p.X < x.High.X && p.Y >= x.Low.Y && p.Y < x.High.Y
}

// meet reports whether the point with the least coordinates that both may contain is in both.
func meet(x, y api.Box) bool {
	p := at(max(x.Low.X, y.Low.X), max(x.Low.Y, y.Low.Y))
	return contains(x, p) && contains(y, p)
}

// scan returns the indices of the boxes that fit.
func scan(l []api.Box, fits func(api.Box) bool) []int {
	var found []int
	for i, x := range l {
		if fits(x) {
			found = append(found, i)
		}
	}
	return found
}

// model divides a part of the boxes in the document's words, in numbers of any size. It returns their order, and how many levels there are.
func model(l []api.Box, part []int, level int) ([]int, int) {
	if len(part) < 2 {
		return slices.Clone(part), len(part)
	}
	sums := map[int]*big.Int{}
	for _, i := range part {
		low, high := l[i].Low.X, l[i].High.X
		if level%2 == 0 {
			low, high = l[i].Low.Y, l[i].High.Y
		}
		sums[i] = new(big.Int).Add(big.NewInt(int64(low)), big.NewInt(int64(high)))
	}
	sorted := slices.Clone(part)
	sort.Slice(sorted, func(m, n int) bool {
		i, j := sorted[m], sorted[n]
		if c := sums[i].Cmp(sums[j]); c != 0 {
			return c < 0
		}
		return i < j
	})
	half := (len(part) + 1) / 2
	first, depth := model(l, sorted[:half], level+1)
	second, other := model(l, sorted[half:], level+1)
	return append(first, second...), 1 + max(depth, other)
}

func modelOf(l []api.Box) ([]int, int) {
	var all []int
	for i := range l {
		all = append(all, i)
	}
	return model(l, all, 1)
}

func holdAt(t *testing.T, x *boxtree.Tree, l []api.Box, p api.Point) []int {
	t.Helper()
	got := x.At(p)
	if want := scan(l, func(one api.Box) bool { return contains(one, p) }); !slices.Equal(got, want) {
		t.Fatal(l, "at", p, got, "not", want)
	}
	return got
}

func holdOver(t *testing.T, x *boxtree.Tree, l []api.Box, y api.Box) []int {
	t.Helper()
	got := x.Over(y)
	if want := scan(l, func(one api.Box) bool { return meet(one, y) }); !slices.Equal(got, want) {
		t.Fatal(l, "over", y, got, "not", want)
	}
	return got
}

// holdShape checks all that does not hang on a query.
func holdShape(t *testing.T, x *boxtree.Tree, l []api.Box) {
	t.Helper()
	order, depth := modelOf(l)
	if got := x.Order(); !slices.Equal(got, order) {
		t.Fatal(l, "order", got, "not", order)
	}
	if x.Depth() != depth || x.Len() != len(l) {
		t.Fatal(len(l), "depth", x.Depth(), "not", depth, "len", x.Len())
	}
	for i, want := range l {
		if got, e := x.Box(i); got != want || e != api.OK {
			t.Fatal(i, got, e)
		}
	}
	for _, i := range []int{len(l), len(l) + 1, 2*len(l) - 1, 2 * len(l), -1, -len(l), math.MinInt, math.MaxInt} {
		if got, e := x.Box(i); i >= len(l) || i < 0 {
			if got != (api.Box{}) || e != api.ErrMissing {
				t.Fatal(i, got, e)
			}
		}
	}
}

func TestExamples(t *testing.T) {
	l := []api.Box{box(0, 0, 4, 4), box(2, 2, 6, 6), box(9, 9, 9, 12)}
	x := build(t, l)
	for _, c := range []struct{ got, want []int }{
		{x.At(at(3, 3)), []int{0, 1}}, {x.At(at(4, 4)), []int{1}}, {x.At(at(9, 9)), nil},
		{x.Over(box(3, 3, 9, 9)), []int{0, 1}}, {x.Order(), []int{0, 1, 2}},
	} {
		if !slices.Equal(c.got, c.want) {
			t.Error(c.got, "not", c.want)
		}
	}
	if x.Depth() != 3 {
		t.Error(x.Depth())
	}
	if _, e := x.Box(3); e != api.ErrMissing {
		t.Error(e)
	}
	none := build(t, nil)
	if len(none.At(at(0, 0))) != 0 || none.Depth() != 0 {
		t.Error("none")
	}
	if x, e := boxtree.Build(make([]api.Box, 1001)); x != nil || e != api.ErrLong {
		t.Error(x, e)
	}
}

// P12.1

func TestBuild(t *testing.T) {
	for _, n := range []int{0, 1, 2, 3, 999, 1000} {
		if x := build(t, tiles(n, 30)); x.Len() != n {
			t.Error(n, x.Len())
		}
	}
	for _, n := range []int{1001, 1002, 2000, 1 << 20} {
		if x, e := boxtree.Build(tiles(n, 30)); x != nil || e != api.ErrLong {
			t.Error(n, e)
		}
	}
}

func TestNone(t *testing.T) {
	for _, l := range [][]api.Box{nil, {}, tiles(3, 3)[:0]} {
		x := build(t, l)
		holdShape(t, x, nil)
		for _, n := range edges() {
			if x.At(at(n, n)) != nil || x.Over(everywhere()) != nil || x.Order() != nil {
				t.Error(n)
			}
			if y, e := x.Box(n); y != (api.Box{}) || e != api.ErrMissing {
				t.Error(n, y, e)
			}
		}
	}
}

// TestBoxIsAsGiven: a box without points too is what it was.
func TestBoxIsAsGiven(t *testing.T) {
	l := fieldBoxes(3)
	for _, n := range edges() {
		l = append(l, box(n, -n, -n, n), box(n, n, n, n), box(n, 0, 0, n))
	}
	holdShape(t, build(t, l), l)
}

func TestNotMade(t *testing.T) {
	l := []api.Box{everywhere(), box(0, 0, 4, 4), box(1, 1, 2, 2)}
	made := build(t, l)
	copied, none := *made, *build(t, nil)
	again := copied
	*made = boxtree.Tree{} // as it was declared, and no longer as it was made
	var absent *boxtree.Tree
	for name, x := range map[string]*boxtree.Tree{"nil": absent, "zero": {}, "new": new(boxtree.Tree), "copy": &copied, "copy of none": &none, "copy of a copy": &again, "overwritten": made} {
		if x.At(at(1, 1)) != nil || x.Over(everywhere()) != nil || x.Order() != nil || x.Len() != 0 || x.Depth() != 0 {
			t.Error(name)
		}
		for _, i := range []int{-1, 0, 1, 2, 3, math.MaxInt} {
			if y, e := x.Box(i); y != (api.Box{}) || e != api.ErrNil {
				t.Error(name, i, y, e)
			}
		}
	}
}

// TestCopyLeavesTree: what was copied is still made.
func TestCopyLeavesTree(t *testing.T) {
	l := tiles(20, 5)
	x := build(t, l)
	copied := *x
	if copied.Len() != 0 {
		t.Error("copy")
	}
	holdShape(t, x, l)
	holdOver(t, x, l, box(3, 3, 9, 9))
}

// P12.2

// TestPairs holds all pairs of small boxes against all small points and boxes.
func TestPairs(t *testing.T) {
	some := fieldBoxes(3)
	for _, a := range some {
		for _, b := range some {
			l := []api.Box{a, b}
			x := build(t, l)
			for _, p := range field(3) {
				holdAt(t, x, l, p)
			}
			for _, y := range some {
				holdOver(t, x, l, y)
			}
		}
	}
}

// TestAllFieldBoxes holds many boxes at once, most of which overlap, or have sides in common.
func TestAllFieldBoxes(t *testing.T) {
	l := fieldBoxes(5)
	x := build(t, l)
	holdShape(t, x, l)
	for _, p := range field(6) {
		holdAt(t, x, l, at(p.X-1, p.Y-1))
	}
	for _, y := range append(fieldBoxes(5), everywhere(), box(-9, -9, 9, 1), box(2, -9, 3, 9)) {
		holdOver(t, x, l, y)
	}
}

func TestSides(t *testing.T) {
	l := []api.Box{box(0, 0, 4, 4), box(4, 0, 8, 4), box(0, 4, 4, 8), box(4, 4, 8, 8), box(3, 3, 5, 5), box(4, 4, 4, 8), box(8, 8, 0, 0)}
	x := build(t, l)
	for _, c := range []struct {
		p    api.Point
		want []int
	}{
		{at(0, 0), []int{0}}, {at(3, 3), []int{0, 4}}, {at(4, 3), []int{1, 4}}, {at(3, 4), []int{2, 4}}, {at(4, 4), []int{3, 4}},
		{at(5, 4), []int{3}}, {at(7, 7), []int{3}}, {at(8, 7), nil}, {at(7, 8), nil}, {at(-1, 0), nil}, {at(0, -1), nil},
	} {
		if got := holdAt(t, x, l, c.p); !slices.Equal(got, c.want) {
			t.Error(c, got)
		}
	}
	for _, c := range []struct {
		y    api.Box
		want []int
	}{
		{box(0, 0, 3, 3), []int{0}}, {box(0, 0, 4, 4), []int{0, 4}}, {box(0, 0, 5, 4), []int{0, 1, 4}}, {box(4, 4, 5, 5), []int{3, 4}},
		{box(5, 5, 8, 8), []int{3}}, {box(8, 0, 9, 9), nil}, {box(0, 8, 9, 9), nil}, {box(-4, -4, 0, 9), nil}, {box(-4, -4, 9, 0), nil},
		{box(1, 1, 1, 3), nil}, {box(3, 3, 1, 1), nil}, {box(0, 0, 8, 8), []int{0, 1, 2, 3, 4}}, {everywhere(), []int{0, 1, 2, 3, 4}},
	} {
		if got := holdOver(t, x, l, c.y); !slices.Equal(got, c.want) {
			t.Error(c, got)
		}
	}
}

// TestFarBoxes: boxes and points of any ints.
func TestFarBoxes(t *testing.T) {
	l := []api.Box{everywhere(), box(math.MaxInt-1, 0, math.MaxInt, 1), box(math.MinInt, 0, math.MinInt+1, 1), box(math.MaxInt, math.MaxInt, math.MinInt, math.MinInt)}
	x := build(t, l)
	for _, c := range []struct {
		p    api.Point
		want []int
	}{
		{at(math.MaxInt, 0), nil}, {at(math.MaxInt-1, 0), []int{0, 1}}, {at(math.MaxInt-1, 1), []int{0}}, {at(math.MaxInt-2, 0), []int{0}},
		{at(math.MinInt, 0), []int{0, 2}}, {at(math.MinInt, math.MinInt), []int{0}}, {at(math.MinInt+1, 0), []int{0}}, {at(0, math.MaxInt), nil},
	} {
		if got := holdAt(t, x, l, c.p); !slices.Equal(got, c.want) {
			t.Error(c, got)
		}
	}
	for _, a := range edges() {
		for _, b := range edges() {
			holdAt(t, x, l, at(a, b))
			holdOver(t, x, l, box(a, 0, b, 1))
			holdOver(t, x, l, box(a, b, b, a))
		}
	}
}

// TestAgainstModel holds trees of all sizes over numbers of all kinds.
func TestAgainstModel(t *testing.T) {
	r := rand.New(rand.NewSource(1))
	found := 0
	for i := range 1500 {
		n := ways()[i%len(ways())]
		count := r.Intn(20)
		if i%100 < len(ways()) {
			count = 900 + r.Intn(101)
		}
		l := anyBoxes(r, count, n)
		x := build(t, l)
		holdShape(t, x, l)
		for range 40 {
			found += len(holdAt(t, x, l, at(n(r), n(r))))
			found += len(holdOver(t, x, l, anyBox(r, n)))
		}
		for range min(count, 10) {
			one := l[r.Intn(count)]
			found += len(holdAt(t, x, l, one.Low))
			holdAt(t, x, l, one.High)
			holdOver(t, x, l, one)
		}
	}
	if found < 100000 {
		t.Error("found too few", found)
	}
}

// TestApart holds boxes that meet few others: what most of a tree is passed over for.
func TestApart(t *testing.T) {
	r := rand.New(rand.NewSource(2))
	for _, count := range []int{1, 2, 3, 4, 5, 63, 64, 65, 999, 1000} {
		for _, inRow := range []int{1, 7, 31, 1000} {
			l := tiles(count, inRow)
			r.Shuffle(len(l), func(i, j int) { l[i], l[j] = l[j], l[i] })
			x := build(t, l)
			for i, one := range l {
				if got := x.At(at(one.High.X-1, one.High.Y-1)); !slices.Equal(got, []int{i}) {
					t.Fatal(one, got)
				}
				if got := x.Over(one); !slices.Equal(got, []int{i}) {
					t.Fatal(one, got)
				}
				if i%50 == 0 {
					holdOver(t, x, l, box(one.Low.X-1, one.Low.Y-1, one.High.X+1, one.High.Y+1))
					holdAt(t, x, l, at(one.High.X, one.Low.Y))
				}
			}
		}
	}
}

// P12.3

func TestOrder(t *testing.T) {
	for _, c := range []struct {
		l    []api.Box
		want []int
	}{
		{[]api.Box{box(0, 0, 4, 4)}, []int{0}},
		{[]api.Box{box(5, 0, 6, 0), box(0, 9, 4, 9)}, []int{1, 0}},
		// The root goes by X alone, whatever Y is.
		{[]api.Box{box(1, 0, 1, 0), box(0, 9, 0, 9)}, []int{1, 0}},
		// By the sum, not by Low, High, or the width.
		{[]api.Box{box(0, 0, 9, 9), box(3, 0, 4, 9)}, []int{1, 0}},
		{[]api.Box{box(9, 0, 0, 9), box(3, 0, 4, 9)}, []int{1, 0}},
		{[]api.Box{box(1, 0, 1, 0), box(0, 0, 1, 0)}, []int{1, 0}},
		{[]api.Box{box(0, 0, 0, 0), box(-1, 0, 0, 0)}, []int{1, 0}},
		{[]api.Box{box(-1, 0, 0, 0), box(-1, 0, -1, 0)}, []int{1, 0}},
		// The second level goes by Y: of three, two are in the first half.
		{[]api.Box{box(0, 9, 0, 9), box(1, 5, 1, 5), box(2, 1, 2, 1)}, []int{1, 0, 2}},
		{[]api.Box{box(0, 1, 0, 1), box(2, 9, 2, 9), box(1, 0, 1, 0)}, []int{2, 0, 1}},
		{[]api.Box{box(3, 0, 3, 0), box(2, 1, 2, 1), box(1, 2, 1, 2), box(0, 3, 0, 3)}, []int{2, 3, 0, 1}},
		// The third level goes by X again: of five, three are in the first half, and two of these in its first half.
		{[]api.Box{box(3, 0, 3, 0), box(2, 0, 2, 0), box(1, 9, 1, 9), box(5, 0, 5, 0), box(4, 0, 4, 0)}, []int{1, 0, 2, 3, 4}},
		// Equal ones by index, whatever the order of the level above: all have the same Y, and X goes backwards.
		{[]api.Box{box(3, 0, 3, 0), box(2, 0, 2, 0), box(1, 0, 1, 0), box(0, 0, 0, 0)}, []int{2, 3, 0, 1}},
		{[]api.Box{box(0, 7, 9, 7), box(9, 7, 0, 7), box(4, 7, 5, 7), box(5, 7, 4, 7)}, []int{0, 1, 2, 3}},
		{tiles(4, 1)[:0], nil},
	} {
		x := build(t, c.l)
		holdShape(t, x, c.l)
		if got := x.Order(); !slices.Equal(got, c.want) {
			t.Error(c, got)
		}
	}
}

// TestOrderOfSums compares sums that are no ints, in X and in Y.
func TestOrderOfSums(t *testing.T) {
	var l, upward []api.Box
	for _, a := range edges() {
		for _, b := range edges() {
			l = append(l, box(a, 0, b, 0))
			upward = append(upward, box(0, a, 0, b))
		}
	}
	holdShape(t, build(t, l), l)
	holdShape(t, build(t, upward), upward)
	for _, a := range l {
		for _, b := range l {
			pair := []api.Box{a, b}
			x, e := boxtree.Build(pair)
			if want, _ := modelOf(pair); e != api.OK || !slices.Equal(x.Order(), want) {
				t.Fatal(pair, want)
			}
		}
	}
	for i, a := range upward {
		b, third := upward[(i*37+5)%len(upward)], box(1, 0, 1, 0)
		trio := []api.Box{a, b, third}
		holdShape(t, build(t, trio), trio)
	}
}

// TestOrderOfTriples holds the order of all triples of boxes whose sums are small.
func TestOrderOfTriples(t *testing.T) {
	var some []api.Box
	for _, p := range field(5) {
		some = append(some, box(p.X/2, p.Y-p.Y/2, p.X-p.X/2, p.Y/2))
	}
	for _, a := range some {
		for _, b := range some {
			for _, c := range some {
				l := []api.Box{a, b, c}
				x := build(t, l)
				if want, _ := modelOf(l); !slices.Equal(x.Order(), want) {
					t.Fatal(l, x.Order(), want)
				}
			}
		}
	}
}

func TestOrderOfEqualOnes(t *testing.T) {
	for n := range 200 {
		var l []api.Box
		var want []int
		for i := range n {
			l = append(l, box(1, 1, 3, 3))
			want = append(want, i)
		}
		x := build(t, l)
		if got := x.Order(); !slices.Equal(got, want) {
			t.Fatal(n, got)
		}
		if got := x.At(at(2, 2)); !slices.Equal(got, want) {
			t.Fatal(n, got)
		}
	}
}

// levels returns how many there are of n boxes.
func levels(n int) int {
	if n < 2 {
		return n
	}
	return 1 + max(levels((n+1)/2), levels(n-(n+1)/2))
}

func TestDepth(t *testing.T) {
	l := tiles(1000, 31)
	for n := range 1001 {
		x := build(t, l[:n])
		if x.Depth() != levels(n) || x.Len() != n {
			t.Fatal(n, x.Depth(), levels(n))
		}
	}
	for n, want := range map[int]int{0: 0, 1: 1, 2: 2, 3: 3, 4: 3, 5: 4, 8: 4, 9: 5, 512: 10, 513: 11, 1000: 11} {
		if got := build(t, l[:n]).Depth(); got != want {
			t.Error(n, got)
		}
	}
}

// P12.4

// TestListsInOtherOrder: which boxes are found does not hang on where they stand in the list.
func TestListsInOtherOrder(t *testing.T) {
	r := rand.New(rand.NewSource(3))
	for i := range 300 {
		n := ways()[i%len(ways())]
		l := anyBoxes(r, 1+r.Intn(60), n)
		places := r.Perm(len(l))
		other := make([]api.Box, len(l))
		for i, place := range places {
			other[place] = l[i]
		}
		x, y := build(t, l), build(t, other)
		moved := func(found []int) []int {
			var to []int
			for _, i := range found {
				to = append(to, places[i])
			}
			slices.Sort(to)
			return to
		}
		for range 30 {
			p, over := at(n(r), n(r)), anyBox(r, n)
			if got := y.At(p); !slices.Equal(got, moved(x.At(p))) {
				t.Fatal(l, p, got)
			}
			if got := y.Over(over); !slices.Equal(got, moved(x.Over(over))) {
				t.Fatal(l, over, got)
			}
		}
	}
}

func TestDoubling(t *testing.T) {
	l := tiles(1000, 9)
	for n := 1; n <= 500; n++ {
		if once, twice := build(t, l[:n]).Depth(), build(t, l[:2*n]).Depth(); twice != once+1 {
			t.Fatal(n, once, twice)
		}
	}
	for n := range 1001 {
		if depth := build(t, l[:n]).Depth(); depth > 11 {
			t.Fatal(n, depth)
		}
	}
}

// What holds everywhere

// TestArgumentIsNotKept: the list may change when it has been built from.
func TestArgumentIsNotKept(t *testing.T) {
	for _, n := range []int{1, 2, 3, 50, 1000} {
		l := tiles(n, 8)
		x := build(t, l)
		given := slices.Clone(l)
		for i := range l {
			l[i] = everywhere()
		}
		holdShape(t, x, given)
		holdAt(t, x, given, at(2, 2))
	}
}

// TestSpareIsLeftAlone: what lies behind the list is not part of it.
func TestSpareIsLeftAlone(t *testing.T) {
	for _, n := range []int{0, 1, 2, 3, 5, 40} {
		all := tiles(200, 20)
		whole := slices.Clone(all)
		x := build(t, all[:n])
		holdShape(t, x, whole[:n])
		if got := x.Over(everywhere()); len(got) != n {
			t.Error(n, got)
		}
		if !slices.Equal(all, whole) {
			t.Error(n, "changed what lies behind")
		}
	}
}

// TestResultsAreNew: whoever has a result may change it, and what it may grow into.
func TestResultsAreNew(t *testing.T) {
	l := append(tiles(33, 6), everywhere())
	x := build(t, l)
	for name, call := range map[string]func() []int{
		"order": x.Order,
		"at":    func() []int { return x.At(at(9, 9)) },
		"over":  func() []int { return x.Over(box(-1, -1, 99, 99)) },
	} {
		first, second := call(), call()
		want := slices.Clone(second)
		for i := range first[:cap(first)] {
			first[:cap(first)][i] = -7
		}
		if !slices.Equal(second, want) || !slices.Equal(call(), want) {
			t.Error(name, second, want)
		}
	}
	holdShape(t, x, l)
}

// TestTreesAreApart: a tree is what it is, whatever others there are and whatever was asked.
func TestTreesAreApart(t *testing.T) {
	one, other := tiles(70, 10), fieldBoxes(4)
	x := build(t, one)
	y := build(t, other)
	for _, p := range field(20) {
		holdAt(t, x, one, p)
		holdAt(t, y, other, p)
	}
	if _, e := boxtree.Build(make([]api.Box, 1001)); e != api.ErrLong {
		t.Error(e)
	}
	holdShape(t, x, one)
	holdShape(t, y, other)
}

// TestAskedAtOnce: those who ask at the same time get what each of them would get alone.
func TestAskedAtOnce(t *testing.T) {
	l := append(tiles(300, 20), fieldBoxes(5)...)
	x := build(t, l)
	var all sync.WaitGroup
	wrong := make([]bool, 8)
	for i := range wrong {
		all.Go(func() {
			for k := range 200 {
				p := at((i*31+k*7)%90, (i*17+k*5)%70)
				want := scan(l, func(one api.Box) bool { return contains(one, p) })
				wrong[i] = wrong[i] || !slices.Equal(x.At(p), want) || x.Depth() != 11
			}
		})
	}
	all.Wait()
	if slices.Contains(wrong, true) {
		t.Error(wrong)
	}
}
