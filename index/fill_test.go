package index

import (
	"slices"
	"sync"
	"testing"

	"apportion/api"
	"apportion/slab"
)

// steps are boxes of 4 by 4, each a little farther up and to the right than the one before.
func steps(n int) []api.Region {
	var l []api.Region
	for i := range n {
		low, high := 2*i, 2*i+4
		l = append(l, api.Region{Rings: [][]api.Point{{{X: low, Y: low}, {X: high, Y: low}, {X: high, Y: high}, {X: low, Y: high}}}})
	}
	return l
}

// filled are the regions that have slabs.
func filled(x *Index) []int {
	var l []int
	for i, s := range x.slabs {
		if s != nil {
			l = append(l, i)
		}
	}
	return l
}

// TestFilledOnFirstUse: a region is examined only when a point is near it, or is asked for, and then for all time.
func TestFilledOnFirstUse(t *testing.T) {
	x, f := Build(steps(20))
	if f.Err != api.OK || filled(x) != nil {
		t.Fatal(f, filled(x))
	}
	expect := func(want ...int) {
		t.Helper()
		if got := filled(x); !slices.Equal(got, want) {
			t.Error(got, "not", want)
		}
	}
	x.Near(api.Point{X: 5, Y: 5})
	x.Len()
	x.At(api.Point{X: 99, Y: 99})
	x.At(api.Point{X: 0, Y: 4})
	x.In(20, api.Point{X: 5, Y: 5})
	expect(0)
	x.At(api.Point{X: 5, Y: 5})
	expect(0, 1, 2)
	x.In(9, api.Point{X: -5, Y: -5})
	expect(0, 1, 2, 9)
	kept := slices.Clone(x.slabs)
	for i := range 44 {
		x.At(api.Point{X: i, Y: i})
		for k := range 20 {
			x.In(k, api.Point{X: i, Y: i})
		}
	}
	if len(filled(x)) != 20 {
		t.Error(filled(x))
	}
	for i, s := range kept {
		if s != nil && s != x.slabs[i] {
			t.Error("filled twice", i)
		}
	}
}

// teeth is a region that takes its time to be filled.
func teeth() api.Region {
	l := []api.Point{{X: 200, Y: -1}, {X: -1, Y: -2}}
	for i := range 198 {
		l = append(l, api.Point{X: i, Y: i + i%2*1000})
	}
	return api.Region{Rings: [][]api.Point{l}}
}

// TestFilledOnceByAll: of those who ask at the same time for the first time only one fills.
func TestFilledOnceByAll(t *testing.T) {
	for range 10 {
		x, _ := Build([]api.Region{teeth()})
		seen := make([]*slab.Slabs, 16)
		start := make(chan struct{})
		var all sync.WaitGroup
		for i := range seen {
			all.Go(func() {
				<-start
				x.In(0, api.Point{X: i})
				seen[i] = x.slabs[0]
			})
		}
		close(start)
		all.Wait()
		for i, s := range seen {
			if s == nil || s != seen[0] {
				t.Error(i)
			}
		}
	}
}

// TestRegionsAreLetGo: of a region that has slabs nothing else is kept.
func TestRegionsAreLetGo(t *testing.T) {
	x, _ := Build(steps(20))
	x.At(api.Point{X: 5, Y: 5})
	for i, g := range x.regions {
		if (g.Rings == nil) != (x.slabs[i] != nil) {
			t.Error(i, g, x.slabs[i] != nil)
		}
	}
}

// TestOnlyNearRegionsAreExamined: a point has what the regions near it tell, whatever the others hold.
func TestOnlyNearRegionsAreExamined(t *testing.T) {
	x, _ := Build(steps(20))
	for i := range 20 {
		x.In(i, api.Point{})
	}
	whole := slices.Clone(x.slabs)
	all, f := slab.Build(api.Region{Rings: [][]api.Point{{{X: -99, Y: -99}, {X: 99, Y: -99}, {X: 99, Y: 99}, {X: -99, Y: 99}}}})
	if f.Err != api.OK {
		t.Fatal(f)
	}
	for i := range 44 {
		p := api.Point{X: i, Y: i + i%3 - 1}
		copy(x.slabs, whole)
		want := x.At(p)
		for k := range x.slabs {
			if !slices.Contains(x.Near(p), k) {
				x.slabs[k] = all
			}
		}
		if got := x.At(p); !slices.Equal(got, want) {
			t.Error(p, got, want)
		}
	}
}
