package boxtree

import (
	"testing"

	"apportion/api"
	"apportion/point"
)

// TestFewAreExamined: of a thousand boxes that lie side by side, a query examines only those around its way down, the boxes around parts included.
func TestFewAreExamined(t *testing.T) {
	const most = 60
	var l []api.Box
	for i := range api.MaxBoxes {
		// The list goes through the field in leaps: its own order is of no help.
		x, y := i*387%api.MaxBoxes%32*4, i*387%api.MaxBoxes/32*4
		l = append(l, api.Box{Low: api.Point{X: x, Y: y}, High: api.Point{X: x + 4, Y: y + 4}})
	}
	tree, _ := Build(l)
	for i, x := range l {
		examined := 0
		found := tree.find(func(y api.Box) bool {
			examined++
			return point.In(x.Low, y)
		})
		if len(found) != 1 || found[0] != i || examined > most {
			t.Fatal(x, found, examined)
		}
	}
	examined := 0
	far := api.Point{X: -1, Y: -1}
	if found := tree.find(func(y api.Box) bool { examined++; return point.In(far, y) }); found != nil || examined != 1 {
		t.Error(found, examined)
	}
}

// TestAroundIsTight: each part has a place of its own, which holds the least box around its boxes; there are no other places.
func TestAroundIsTight(t *testing.T) {
	l := []api.Box{}
	for i := range 37 {
		x, y := i*17%37, i*23%37
		l = append(l, api.Box{Low: api.Point{X: x, Y: y}, High: api.Point{X: x + i%5, Y: y + i%3}})
	}
	tree, _ := Build(l)
	places := map[int]bool{}
	var check func(p part) api.Box
	check = func(p part) api.Box {
		x := l[tree.order[p.first]]
		for _, i := range tree.order[p.first : p.first+p.count] {
			x = around(x, l[i])
		}
		place := tree.place(p)
		if tree.boxes[place] != x || places[place] {
			t.Fatal(p, tree.boxes[place], x)
		}
		places[place] = true
		if p.count > 1 {
			a, b := p.halves()
			check(a)
			check(b)
		}
		return x
	}
	check(tree.whole())
	if len(places) != len(tree.boxes) {
		t.Error(len(places))
	}
}
