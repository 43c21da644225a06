package slab

import (
	"testing"

	"apportion/api"
)

// teeth is a ring of n points, the last two of which are below the others: every edge but two passes through most slabs.
func teeth(n int) api.Region {
	var l []api.Point
	for i := range n - 2 {
		l = append(l, api.Point{X: i, Y: i + i%2*1000})
	}
	return api.Region{Rings: [][]api.Point{append(l, api.Point{X: n, Y: -1}, api.Point{X: -1, Y: -2})}}
}

// TestOneSlabIsExamined: a point has what its own slab tells, whatever the others hold.
func TestOneSlabIsExamined(t *testing.T) {
	s, _ := Build(teeth(60))
	whole := s.edges
	for i, own := range whole {
		from, to, _, _ := s.Slab(i)
		for _, y := range []int{from, from + (to-from)/2, to - 1} {
			for x := -2; x <= 61; x++ {
				p := api.Point{X: x, Y: y}
				s.edges = whole
				want := s.Crossings(p)
				s.edges = make([][]edge, len(whole))
				s.edges[i] = own
				if got := s.Crossings(p); got != want || s.In(p) != (want%2 == 1) {
					t.Fatal(p, got, want)
				}
			}
		}
	}
}

// TestPartsOfOneSlice: the edges of a slab stand behind those of the slab below.
func TestPartsOfOneSlice(t *testing.T) {
	s, _ := Build(teeth(60))
	all := s.edges[0][:cap(s.edges[0])]
	for i, l := range s.edges {
		if len(l) == 0 || &l[0] != &all[0] {
			t.Fatal(i, len(l))
		}
		all = all[len(l):]
	}
}
