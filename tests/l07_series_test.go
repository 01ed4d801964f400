package tests

import (
	"iter"
	"math"
	"math/big"
	"runtime"
	"slices"
	"sync"
	"testing"

	"loop.example/g00859/impl"
)

// seriesNets gives the valid ones of allNets with every number of terminals,
// with great and with small scales and weights.
func seriesNets() iter.Seq[impl.Net] {
	return func(yield func(impl.Net) bool) {
		for n := range netsOfAllEnds() {
			small := withScale(copyOf(n), n.Scale%6+1)
			for i := range small.Wires {
				small.Wires[i].W = small.Wires[i].W%6 + 1
			}
			if !yield(n) || !yield(withScale(n, n.Scale%4+1)) || !yield(small) {
				return
			}
		}
	}
}

// neighbours goes through the row of a node in the table of weights.
func neighbours(n impl.Net, v int) []int {
	var list []int
	for u, weight := range tableOf(n)[v] {
		if weight != 0 {
			list = append(list, u)
		}
	}
	return list
}

func firstInnerByHand(n impl.Net, wires int) int {
	for v := n.Ends; v < n.Nodes; v++ {
		if len(neighbours(n, v)) == wires {
			return v
		}
	}
	return -1
}

// droppedByHand adds the resistances of two wires to find their conductance,
// and takes the row and the column of v out of the table of conductances.
func droppedByHand(n impl.Net, v int) (impl.Net, bool) {
	if v < n.Ends || v >= n.Nodes {
		return impl.Net{}, false
	}
	ends, conductances := neighbours(n, v), conductancesOf(n)
	if len(ends) != 1 && len(ends) != 2 {
		return impl.Net{}, false
	}
	if len(ends) == 2 {
		a, b := ends[0], ends[1]
		resistance := new(big.Rat).Add(new(big.Rat).Inv(conductances[v][a]), new(big.Rat).Inv(conductances[v][b]))
		both := new(big.Rat).Add(conductances[a][b], new(big.Rat).Inv(resistance))
		conductances[a][b], conductances[b][a] = both, both
	}
	return netOfConductances(withoutLines(conductances, v), n.Nodes-1, n.Ends)
}

func withoutLines(conductances [][]*big.Rat, v int) [][]*big.Rat {
	conductances = slices.Delete(conductances, v, v+1)
	for i, row := range conductances {
		conductances[i] = slices.Delete(row, v, v+1)
	}
	return conductances
}

func reducedByHand(n impl.Net) (impl.Net, int) {
	for steps := 0; ; steps++ {
		v := firstInnerByHand(n, 1)
		if v < 0 {
			v = firstInnerByHand(n, 2)
		}
		smaller, ok := droppedByHand(n, v)
		if !ok {
			return n, steps
		}
		n = smaller
	}
}

func TestWiresAt(t *testing.T) {
	tail := netOf(4, 2, 1, 0, 2, 1, 1, 2, 2, 2, 3, 5)
	ring := netOf(5, 5, 9, 0, 3, 1, 0, 4, 200, 1, 2, 3, 1, 4, 1, 2, 3, 7)
	cases := []struct {
		n    impl.Net
		v    int
		want []int
	}{
		{netOf(1, 1, 1), 0, nil},
		{netOf(1, 1, 1000), 0, nil},
		{netOf(1, 1, 1), 1, nil},
		{netOf(1, 1, 1), -1, nil},
		{netOf(2, 1, 1, 0, 1, 1), 0, []int{1}},
		{netOf(2, 2, 1, 0, 1, 200), 1, []int{0}},
		{tail, 0, []int{2}},
		{tail, 1, []int{2}},
		{tail, 2, []int{0, 1, 3}},
		{tail, 3, []int{2}},
		{tail, 4, nil},
		{tail, -1, nil},
		{tail, math.MaxInt, nil},
		{tail, math.MinInt, nil},
		{ring, 0, []int{3, 4}},
		{ring, 1, []int{2, 4}},
		{ring, 2, []int{1, 3}},
		{ring, 3, []int{0, 2}},
		{ring, 4, []int{0, 1}},
		{ring, 5, nil},
		{completeNet(5, 1, 1), 0, []int{1, 2, 3, 4}},
		{completeNet(5, 3, 1), 2, []int{0, 1, 3, 4}},
		{completeNet(5, 5, 1), 4, []int{0, 1, 2, 3}},
		{completeNet(5, 5, 1), 5, nil},
		{netOf(5, 1, 1, 0, 4, 1, 1, 4, 1, 2, 4, 1, 3, 4, 1), 4, []int{0, 1, 2, 3}},
		{netOf(5, 1, 1, 0, 4, 1, 1, 4, 1, 2, 4, 1, 3, 4, 1), 0, []int{4}},
	}
	for _, c := range cases {
		if got := impl.WiresAt(c.n, c.v); !slices.Equal(got, c.want) {
			t.Errorf("WiresAt(%v, %d) = %v", c.n, c.v, got)
		}
	}
}

func TestWiresAtOfAllNets(t *testing.T) {
	for n := range allNets() {
		for v := -2; v <= impl.MaxNodes+1; v++ {
			var want []int
			if isValidNet(n) && isNode(n, v) {
				want = neighbours(n, v)
			}
			if got := impl.WiresAt(n, v); !slices.Equal(got, want) {
				t.Fatalf("WiresAt(%v, %d) = %v, not %v", n, v, got, want)
			}
		}
	}
}

func TestLeafAndSeries(t *testing.T) {
	cases := []struct {
		n            impl.Net
		leaf, series int
	}{
		{netOf(1, 1, 1), -1, -1},
		{netOf(1, 1, 1000), -1, -1},
		{netOf(2, 1, 1, 0, 1, 1), 1, -1},
		{netOf(2, 2, 1, 0, 1, 1), -1, -1},
		{netOf(3, 1, 2, 0, 1, 3, 1, 2, 4), 2, 1},
		{netOf(3, 1, 2, 0, 1, 3, 0, 2, 4), 1, -1},
		{netOf(3, 2, 2, 0, 1, 3, 0, 2, 4), 2, -1},
		{netOf(3, 2, 1, 0, 2, 1, 1, 2, 2), -1, 2},
		{netOf(3, 3, 1, 0, 2, 1, 1, 2, 2), -1, -1},
		{netOf(3, 1, 1, 0, 1, 1, 0, 2, 2, 1, 2, 3), -1, 1},
		{netOf(3, 2, 1, 0, 1, 1, 0, 2, 2, 1, 2, 3), -1, 2},
		{netOf(3, 3, 1, 0, 1, 1, 0, 2, 2, 1, 2, 3), -1, -1},
		{netOf(4, 2, 1, 0, 2, 1, 1, 2, 2, 2, 3, 5), 3, -1},
		{netOf(4, 1, 1, 0, 2, 1, 1, 2, 2, 2, 3, 5), 1, -1},
		{netOf(4, 4, 1, 0, 2, 1, 1, 2, 2, 2, 3, 5), -1, -1},
		{netOf(4, 2, 1, 0, 2, 1, 1, 2, 2, 1, 3, 5), 3, 2},
		{netOf(4, 2, 1, 0, 3, 1, 1, 2, 5, 1, 3, 2), 2, 3},
		{netOf(4, 2, 1, 0, 2, 1, 0, 3, 1, 1, 2, 1, 1, 3, 1), -1, 2},
		{netOf(4, 2, 1, 0, 2, 1, 0, 3, 1, 1, 2, 1, 1, 3, 1, 2, 3, 1), -1, -1},
		{netOf(5, 1, 1, 0, 1, 1, 0, 2, 1, 0, 3, 1, 0, 4, 1), 1, -1},
		{netOf(5, 4, 1, 0, 1, 1, 0, 2, 1, 0, 3, 1, 0, 4, 1), 4, -1},
		{netOf(5, 1, 1, 0, 4, 1, 1, 4, 1, 2, 4, 1, 3, 4, 1), 1, -1},
		{netOf(5, 2, 1, 0, 1, 1, 1, 2, 1, 2, 3, 1, 3, 4, 1), 4, 2},
		{netOf(5, 1, 1, 0, 1, 1, 0, 4, 1, 1, 2, 1, 2, 3, 1, 3, 4, 1), -1, 1},
		{completeNet(5, 1, 1), -1, -1},
		{completeNet(5, 5, 1), -1, -1},
	}
	for _, c := range cases {
		if leaf, series := impl.LeafOf(c.n), impl.SeriesOf(c.n); leaf != c.leaf || series != c.series {
			t.Errorf("LeafOf and SeriesOf are %d and %d for %v", leaf, series, c.n)
		}
	}
}

func TestLeafAndSeriesOfAllNets(t *testing.T) {
	for n := range netsOfAllEnds() {
		if got, want := impl.LeafOf(n), firstInnerByHand(n, 1); got != want {
			t.Fatalf("LeafOf(%v) = %d, not %d", n, got, want)
		}
		if got, want := impl.SeriesOf(n), firstInnerByHand(n, 2); got != want {
			t.Fatalf("SeriesOf(%v) = %d, not %d", n, got, want)
		}
	}
}

// A network, a node and the network without it; the zero value if there is
// none.
type dropCase struct {
	n    impl.Net
	v    int
	want impl.Net
}

func checkDropped(t *testing.T, cases []dropCase) {
	t.Helper()
	for _, c := range cases {
		if got, ok := impl.DropNode(c.n, c.v); ok != (c.want.Nodes != 0) || !equalNets(got, c.want) {
			t.Errorf("DropNode(%v, %d) = %v, %v", c.n, c.v, got, ok)
		}
	}
}

// A node with one wire need not be the first one.
func TestDropNodeWithOneWire(t *testing.T) {
	star := netOf(5, 1, 6, 0, 1, 3, 0, 2, 6, 0, 3, 9, 0, 4, 12)
	checkDropped(t, []dropCase{
		{netOf(2, 1, 7, 0, 1, 200), 1, netOf(1, 1, 1)},
		{netOf(2, 1, 1000, 0, 1, 1), 1, netOf(1, 1, 1)},
		{netOf(3, 1, 2, 0, 1, 3, 1, 2, 4), 2, netOf(2, 1, 2, 0, 1, 3)},
		{netOf(3, 2, 6, 0, 1, 4, 1, 2, 3), 2, netOf(2, 2, 3, 0, 1, 2)},
		{netOf(4, 2, 1, 0, 2, 1, 1, 2, 2, 2, 3, 5), 3, netOf(3, 2, 1, 0, 2, 1, 1, 2, 2)},
		{netOf(4, 2, 1, 0, 2, 5, 0, 3, 1, 1, 3, 2), 2, netOf(3, 2, 1, 0, 2, 1, 1, 2, 2)},
		{netOf(4, 2, 1000, 0, 1, 200, 0, 2, 199, 0, 3, 200), 2, netOf(3, 2, 5, 0, 1, 1, 0, 2, 1)},
		{netOf(4, 2, 1000, 0, 1, 200, 0, 2, 199, 0, 3, 200), 3, netOf(3, 2, 1000, 0, 1, 200, 0, 2, 199)},
		{star, 1, netOf(4, 1, 2, 0, 1, 2, 0, 2, 3, 0, 3, 4)},
		{star, 2, netOf(4, 1, 2, 0, 1, 1, 0, 2, 3, 0, 3, 4)},
		{star, 3, netOf(4, 1, 2, 0, 1, 1, 0, 2, 2, 0, 3, 4)},
		{star, 4, netOf(4, 1, 2, 0, 1, 1, 0, 2, 2, 0, 3, 3)},
	})
}

func TestDropNodeWithTwoWires(t *testing.T) {
	path := netOf(4, 2, 10, 0, 3, 5, 1, 2, 5, 2, 3, 5)
	triangle := netOf(3, 1, 1, 0, 1, 1, 0, 2, 2, 1, 2, 3)
	ring := netOf(5, 1, 1, 0, 1, 1, 0, 4, 1, 1, 2, 1, 2, 3, 1, 3, 4, 1)
	checkDropped(t, []dropCase{
		{netOf(3, 2, 1, 0, 2, 1, 1, 2, 2), 2, netOf(2, 2, 3, 0, 1, 2)},
		{netOf(3, 2, 6, 0, 2, 1, 1, 2, 2), 2, netOf(2, 2, 9, 0, 1, 1)},
		{netOf(3, 2, 1, 0, 2, 200, 1, 2, 200), 2, netOf(2, 2, 1, 0, 1, 100)},
		{netOf(3, 1, 2, 0, 1, 3, 1, 2, 4), 1, netOf(2, 1, 7, 0, 1, 6)},
		{path, 2, netOf(3, 2, 4, 0, 2, 2, 1, 2, 1)},
		{path, 3, netOf(3, 2, 4, 0, 2, 1, 1, 2, 2)},
		{triangle, 1, netOf(2, 1, 4, 0, 1, 11)},
		{triangle, 2, netOf(2, 1, 5, 0, 1, 11)},
		{netOf(3, 2, 5, 0, 1, 7, 0, 2, 3, 1, 2, 6), 2, netOf(2, 2, 5, 0, 1, 9)},
		{netOf(4, 2, 1, 0, 2, 3, 0, 3, 1, 1, 2, 6, 1, 3, 1), 2, netOf(3, 2, 1, 0, 1, 2, 0, 2, 1, 1, 2, 1)},
		{netOf(4, 2, 1, 0, 2, 3, 0, 3, 1, 1, 2, 6, 1, 3, 1), 3, netOf(3, 2, 2, 0, 1, 1, 0, 2, 6, 1, 2, 12)},
		{ring, 1, netOf(4, 1, 2, 0, 1, 1, 0, 3, 2, 1, 2, 2, 2, 3, 2)},
		{ring, 3, netOf(4, 1, 2, 0, 1, 2, 0, 3, 2, 1, 2, 2, 2, 3, 1)},
		{ring, 4, netOf(4, 1, 2, 0, 1, 2, 0, 3, 1, 1, 2, 2, 2, 3, 2)},
		// without the node and its wires, the others are not connected
		{netOf(5, 2, 1, 0, 1, 1, 1, 4, 2, 2, 3, 1, 2, 4, 2), 4, netOf(4, 2, 1, 0, 1, 1, 1, 2, 1, 2, 3, 1)},
		{netOf(5, 4, 3, 0, 1, 4, 1, 4, 8, 2, 3, 4, 2, 4, 8), 4, netOf(4, 4, 3, 0, 1, 4, 1, 2, 4, 2, 3, 4)},
	})
}

// The greatest weights and scales, and those beyond them: of the wire between
// the two ends, of another wire, and by the common scale.
func TestDropNodeLimits(t *testing.T) {
	checkDropped(t, []dropCase{
		{netOf(3, 2, 1, 0, 1, 100, 0, 2, 200, 1, 2, 200), 2, netOf(2, 2, 1, 0, 1, 200)},
		{netOf(3, 2, 1, 0, 1, 101, 0, 2, 200, 1, 2, 200), 2, impl.Net{}},
		{netOf(3, 2, 2, 0, 1, 101, 0, 2, 200, 1, 2, 200), 2, impl.Net{}},
		{netOf(3, 2, 3, 0, 1, 101, 0, 2, 200, 1, 2, 200), 2, netOf(2, 2, 1, 0, 1, 67)},
		{netOf(3, 2, 10, 0, 1, 200, 0, 2, 200, 1, 2, 200), 2, netOf(2, 2, 1, 0, 1, 30)},
		{netOf(3, 2, 1, 0, 1, 200, 0, 2, 1, 1, 2, 1), 2, impl.Net{}},
		{netOf(3, 2, 1, 0, 2, 199, 1, 2, 197), 2, impl.Net{}},
		{netOf(4, 3, 1, 0, 1, 100, 1, 3, 1, 2, 3, 1), 3, netOf(3, 3, 2, 0, 1, 200, 1, 2, 1)},
		{netOf(4, 3, 1, 0, 1, 101, 1, 3, 1, 2, 3, 1), 3, impl.Net{}},
		{netOf(4, 3, 1, 0, 1, 101, 1, 3, 2, 2, 3, 2), 3, netOf(3, 3, 1, 0, 1, 101, 1, 2, 1)},
		{netOf(3, 2, 500, 0, 2, 1, 1, 2, 1), 2, netOf(2, 2, 1000, 0, 1, 1)},
		{netOf(3, 2, 501, 0, 2, 1, 1, 2, 1), 2, impl.Net{}},
		{netOf(3, 2, 1000, 0, 2, 1, 1, 2, 1), 2, impl.Net{}},
		{netOf(3, 2, 1000, 0, 2, 2, 1, 2, 2), 2, netOf(2, 2, 1000, 0, 1, 1)},
		{netOf(3, 2, 999, 0, 1, 199, 0, 2, 2, 1, 2, 2), 2, netOf(2, 2, 999, 0, 1, 200)},
		{netOf(3, 2, 1000, 0, 2, 199, 1, 2, 197), 2, impl.Net{}},
	})
}

func TestDropNodeNone(t *testing.T) {
	tail := netOf(4, 2, 1, 0, 2, 1, 1, 2, 2, 2, 3, 5)
	star := netOf(5, 4, 30, 0, 4, 10, 1, 4, 20, 2, 4, 30, 3, 4, 40)
	checkDropped(t, []dropCase{
		{netOf(1, 1, 1), 0, impl.Net{}},
		{netOf(1, 1, 1), 1, impl.Net{}},
		{netOf(1, 1, 1), -1, impl.Net{}},
		{netOf(2, 1, 1, 0, 1, 1), 0, impl.Net{}},
		{netOf(2, 2, 1, 0, 1, 1), 1, impl.Net{}},
		{netOf(3, 3, 1, 0, 2, 1, 1, 2, 2), 2, impl.Net{}},
		{netOf(3, 3, 1, 0, 1, 1, 0, 2, 2, 1, 2, 3), 1, impl.Net{}},
		{tail, 0, impl.Net{}},
		{tail, 1, impl.Net{}},
		{tail, 2, impl.Net{}},
		{tail, 4, impl.Net{}},
		{tail, -1, impl.Net{}},
		{tail, math.MaxInt, impl.Net{}},
		{tail, math.MinInt, impl.Net{}},
		{star, 4, impl.Net{}},
		{star, 5, impl.Net{}},
		{star, 0, impl.Net{}},
		{completeNet(4, 1, 1), 3, impl.Net{}},
		{completeNet(5, 1, 1), 1, impl.Net{}},
		{completeNet(5, 1, 1), 4, impl.Net{}},
	})
}

func TestDropNodeOfAllNets(t *testing.T) {
	found, none := 0, 0
	for n := range seriesNets() {
		for v := -1; v <= impl.MaxNodes; v++ {
			want, wanted := droppedByHand(n, v)
			got, ok := impl.DropNode(n, v)
			if ok != wanted || !equalNets(got, want) {
				t.Fatalf("DropNode(%v, %d) = %v, %v, not %v, %v", n, v, got, ok, want, wanted)
			}
			switch {
			case ok:
				found++
				checkWithoutNode(t, n, v, got)
			case v >= n.Ends && v < n.Nodes && len(neighbours(n, v)) <= 2:
				none++
			}
		}
	}
	if min(found, none) < 1000 {
		t.Errorf("%d nodes are dropped, and for %d of them the result is not valid", found, none)
	}
}

// Promise 3: without a node, the response is the same, and so are the
// resistances between all other nodes.
func checkWithoutNode(t *testing.T, n impl.Net, v int, smaller impl.Net) {
	t.Helper()
	if lowest, ok := impl.CanonNet(smaller); !ok || !equalNets(lowest, smaller) || smaller.Nodes != n.Nodes-1 || smaller.Ends != n.Ends {
		t.Fatalf("without %d, %v is %v", v, n, smaller)
	}
	checkAlike(t, n, smaller)
	for a := range smaller.Nodes {
		for b := range a {
			want, _ := impl.ResistanceOf(n, skipping(a, v), skipping(b, v))
			if got, ok := impl.ResistanceOf(smaller, a, b); !ok || got != want {
				t.Fatalf("between %d and %d of %v the resistance is %v, and it was %v in %v", a, b, smaller, got, want, n)
			}
		}
	}
}

func checkAlike(t *testing.T, n impl.Net, smaller impl.Net) {
	t.Helper()
	before, _ := impl.ResponseOf(n)
	after, _ := impl.ResponseOf(smaller)
	if !impl.AreAlike(n, smaller) || !impl.SameResponse(before, after) || !equalRatioRows(before, after) {
		t.Fatalf("%v has the response %v, and %v has %v", n, before, smaller, after)
	}
}

// A network with what is left of it, and the number of steps.
type reduceCase struct {
	n, want impl.Net
	steps   int
}

func reduceCases() []reduceCase {
	return []reduceCase{
		{netOf(1, 1, 1), netOf(1, 1, 1), 0},
		{netOf(1, 1, 1000), netOf(1, 1, 1000), 0},
		{impl.Net{Nodes: 1, Ends: 1, Scale: 6, Wires: []impl.Wire{}}, netOf(1, 1, 6), 0},
		{netOf(2, 1, 7, 0, 1, 200), netOf(1, 1, 1), 1},
		{netOf(2, 2, 6, 0, 1, 4), netOf(2, 2, 6, 0, 1, 4), 0},
		{netOf(3, 3, 4, 0, 1, 2, 0, 2, 2, 1, 2, 4), netOf(3, 3, 4, 0, 1, 2, 0, 2, 2, 1, 2, 4), 0},
		{netOf(3, 2, 6, 0, 1, 4, 1, 2, 3), netOf(2, 2, 3, 0, 1, 2), 1},
		{netOf(3, 2, 1, 0, 2, 1, 1, 2, 2), netOf(2, 2, 3, 0, 1, 2), 1},
		{netOf(3, 2, 5, 0, 1, 7, 0, 2, 3, 1, 2, 6), netOf(2, 2, 5, 0, 1, 9), 1},
		{netOf(3, 1, 1, 0, 1, 1, 0, 2, 2, 1, 2, 3), netOf(1, 1, 1), 2},
		{netOf(4, 2, 1, 0, 2, 1, 1, 2, 2, 2, 3, 5), netOf(2, 2, 3, 0, 1, 2), 2},
		{netOf(4, 2, 1, 0, 2, 1, 1, 2, 2, 1, 3, 5), netOf(2, 2, 3, 0, 1, 2), 2},
		{netOf(4, 2, 1, 0, 2, 3, 0, 3, 1, 1, 2, 6, 1, 3, 1), netOf(2, 2, 2, 0, 1, 5), 2},
		{netOf(4, 3, 1, 0, 1, 9, 1, 3, 4, 2, 3, 4), netOf(3, 3, 1, 0, 1, 9, 1, 2, 2), 1},
		{netOf(5, 2, 1, 0, 2, 1, 1, 4, 1, 2, 3, 1, 3, 4, 1), netOf(2, 2, 4, 0, 1, 1), 3},
		{netOf(5, 2, 1, 0, 1, 1, 0, 2, 2, 0, 3, 3, 1, 2, 2, 1, 4, 3, 3, 4, 3), netOf(2, 2, 1, 0, 1, 3), 3},
		{netOf(5, 1, 1, 0, 1, 1, 1, 2, 2, 2, 3, 3, 3, 4, 4), netOf(1, 1, 1), 4},
		{netOf(5, 1, 1000, 0, 1, 200, 0, 2, 200, 0, 3, 200, 0, 4, 200), netOf(1, 1, 1), 4},
		{netOf(5, 1, 1, 0, 1, 1, 0, 4, 1, 1, 2, 1, 2, 3, 1, 3, 4, 1), netOf(1, 1, 1), 4},
		{netOf(5, 2, 1, 0, 2, 1, 1, 2, 1, 2, 3, 9, 3, 4, 9), netOf(2, 2, 2, 0, 1, 1), 3},
		{netOf(5, 2, 4, 0, 1, 2, 1, 2, 200, 1, 3, 200, 1, 4, 200), netOf(2, 2, 2, 0, 1, 1), 3},
		{completeNet(5, 5, 6), completeNet(5, 5, 6), 0},
	}
}

// Networks of which more nodes are left than the terminals: because none has
// one wire or two, or because a step fails.
func stuckCases() []reduceCase {
	bridge := netOf(4, 2, 6, 0, 2, 2, 0, 3, 2, 1, 2, 2, 1, 3, 4, 2, 3, 2)
	apart := netOf(4, 2, 1, 0, 2, 199, 0, 3, 2, 1, 2, 197, 1, 3, 2)
	return []reduceCase{
		{bridge, bridge, 0},
		{netOf(5, 2, 1, 0, 2, 1, 0, 3, 1, 1, 2, 1, 1, 3, 2, 2, 4, 2, 3, 4, 2), netOf(4, 2, 1, 0, 2, 1, 0, 3, 1, 1, 2, 1, 1, 3, 2, 2, 3, 1), 1},
		{netOf(5, 2, 6, 0, 2, 2, 0, 3, 2, 1, 2, 2, 1, 3, 4, 1, 4, 1, 2, 3, 2), netOf(4, 2, 3, 0, 2, 1, 0, 3, 1, 1, 2, 1, 1, 3, 2, 2, 3, 1), 1},
		{netOf(4, 3, 2, 0, 3, 2, 1, 3, 2, 2, 3, 2), netOf(4, 3, 2, 0, 3, 2, 1, 3, 2, 2, 3, 2), 0},
		{netOf(5, 4, 30, 0, 4, 10, 1, 4, 20, 2, 4, 30, 3, 4, 40), netOf(5, 4, 30, 0, 4, 10, 1, 4, 20, 2, 4, 30, 3, 4, 40), 0},
		{completeNet(4, 1, 6), completeNet(4, 1, 6), 0},
		{completeNet(5, 1, 6), completeNet(5, 1, 6), 0},
		// the first node with two wires cannot be dropped, another one could
		{apart, apart, 0},
		{netOf(3, 2, 1, 0, 1, 101, 0, 2, 200, 1, 2, 200), netOf(3, 2, 1, 0, 1, 101, 0, 2, 200, 1, 2, 200), 0},
		{netOf(3, 2, 1000, 0, 2, 1, 1, 2, 1), netOf(3, 2, 1000, 0, 2, 1, 1, 2, 1), 0},
		{netOf(4, 2, 500, 0, 2, 1, 1, 3, 1, 2, 3, 1), netOf(3, 2, 1000, 0, 2, 1, 1, 2, 2), 1},
		// a node with one wire comes before the first one with two
		{netOf(4, 2, 1, 0, 2, 199, 1, 2, 197, 1, 3, 5), netOf(3, 2, 1, 0, 2, 199, 1, 2, 197), 1},
		{netOf(5, 2, 2, 0, 2, 197, 1, 2, 199, 1, 3, 5, 3, 4, 1), netOf(3, 2, 2, 0, 2, 197, 1, 2, 199), 2},
	}
}

func TestReduceAll(t *testing.T) {
	for _, c := range append(reduceCases(), stuckCases()...) {
		if got, steps, ok := impl.ReduceAll(c.n); !ok || steps != c.steps || !equalNets(got, c.want) {
			t.Errorf("ReduceAll(%v) = %v, %d, %v", c.n, got, steps, ok)
		}
	}
}

func TestIsReducible(t *testing.T) {
	for _, c := range reduceCases() {
		if !impl.IsReducible(c.n) {
			t.Errorf("IsReducible(%v) is false", c.n)
		}
	}
	for _, c := range stuckCases() {
		if impl.IsReducible(c.n) {
			t.Errorf("IsReducible(%v) is true", c.n)
		}
	}
}

// A node that is not reached by the steps may be one that could be dropped.
func TestReduceAllStopsAtTheFirstNode(t *testing.T) {
	apart := netOf(4, 2, 1, 0, 2, 199, 0, 3, 2, 1, 2, 197, 1, 3, 2)
	if _, ok := impl.DropNode(apart, impl.SeriesOf(apart)); ok {
		t.Errorf("%d can be dropped from %v", impl.SeriesOf(apart), apart)
	}
	want := netOf(3, 2, 1, 0, 1, 1, 0, 2, 199, 1, 2, 197)
	if got, ok := impl.DropNode(apart, 3); !ok || !equalNets(got, want) {
		t.Errorf("DropNode(%v, 3) = %v, %v", apart, got, ok)
	}
}

func TestReduceAllOfAllNets(t *testing.T) {
	reduced, stuck, failed := 0, 0, 0
	for n := range seriesNets() {
		want, wantedSteps := reducedByHand(n)
		got, steps, ok := impl.ReduceAll(n)
		if !ok || steps != wantedSteps || !equalNets(got, want) {
			t.Fatalf("ReduceAll(%v) = %v, %d, %v, not %v, %d", n, got, steps, ok, want, wantedSteps)
		}
		if impl.IsReducible(n) != (want.Nodes == n.Ends) {
			t.Fatalf("IsReducible(%v) is %v", n, impl.IsReducible(n))
		}
		checkReduced(t, n, got, steps)
		switch {
		case got.Nodes == n.Ends:
			reduced++
		case impl.LeafOf(got) < 0 && impl.SeriesOf(got) < 0:
			stuck++
		default:
			failed++
		}
	}
	if min(reduced, stuck, failed) < 500 {
		t.Errorf("%d networks are reduced, %d have no node to drop at the end, and in %d a step fails", reduced, stuck, failed)
	}
}

// Promise 3: a reduction keeps the response, each step takes one node away, and
// what is left is not reduced further. The terminals alone are ResponseNet.
func checkReduced(t *testing.T, n impl.Net, reduced impl.Net, steps int) {
	t.Helper()
	if !impl.NetOk(reduced) || reduced.Ends != n.Ends || steps != n.Nodes-reduced.Nodes {
		t.Fatalf("%v is reduced to %v by %d steps", n, reduced, steps)
	}
	checkAlike(t, n, reduced)
	if again, more, ok := impl.ReduceAll(reduced); !ok || more != 0 || !equalNets(again, reduced) {
		t.Fatalf("%v is reduced by %d more steps to %v", reduced, more, again)
	}
	if steps == 0 && !equalNets(reduced, n) {
		t.Fatalf("%v is changed to %v by no step", n, reduced)
	}
	if reduced.Nodes == n.Ends {
		lowest, _ := impl.CanonNet(reduced)
		if want, ok := impl.ResponseNet(n); !ok || !equalNets(lowest, want) {
			t.Fatalf("%v is reduced to %v, and ResponseNet is %v, %v", n, reduced, want, ok)
		}
	}
}

// Promise 3: no potentials tell a network and its reduction apart.
func TestReducedNetsCannotBeToldApart(t *testing.T) {
	for n := range netsOfAllEnds() {
		reduced, steps, _ := impl.ReduceAll(n)
		if steps == 0 {
			continue
		}
		for _, volts := range voltLists(n.Ends) {
			before, _ := impl.CurrentsFor(n, volts)
			after, ok := impl.CurrentsFor(reduced, volts)
			power, _ := impl.PowerFor(n, volts)
			if got, same := impl.PowerFor(reduced, volts); !ok || !slices.Equal(before, after) || !same || got != power {
				t.Fatalf("%v tell %v and %v apart", volts, n, reduced)
			}
		}
	}
}

// Trees between up to two terminals are reduced until only these are left, with
// the resistance of the path between them.
func TestReduceAllOfTrees(t *testing.T) {
	trees := 0
	for n := range allNets() {
		for i := range n.Wires {
			n.Wires[i].W = 1
		}
		if n = withScale(n, 1); len(n.Wires) != n.Nodes-1 || !isValidNet(n) {
			continue
		}
		trees++
		for ends := 1; ends <= min(n.Nodes, 2); ends++ {
			n.Ends = ends
			want := netOf(1, 1, 1)
			if ends == 2 {
				want = netOf(2, 2, pathLength(n), 0, 1, 1)
			}
			got, steps, ok := impl.ReduceAll(n)
			if !ok || steps != n.Nodes-ends || !equalNets(got, want) || !impl.IsReducible(n) {
				t.Errorf("ReduceAll(%v) = %v, %d, %v, not %v", n, got, steps, ok, want)
			}
		}
	}
	if trees != 1+1+3+16+125 {
		t.Errorf("there are %d trees", trees)
	}
}

// pathLength is the number of wires between the nodes 0 and 1 of a tree.
func pathLength(n impl.Net) int {
	distance := []int{0, 9, 9, 9, 9}
	for range n.Nodes {
		for _, w := range n.Wires {
			distance[w.A] = min(distance[w.A], distance[w.B]+1)
			distance[w.B] = min(distance[w.B], distance[w.A]+1)
		}
	}
	return distance[1]
}

func checkNoSeries(t *testing.T, n impl.Net) {
	t.Helper()
	if leaf, series := impl.LeafOf(n), impl.SeriesOf(n); leaf != -1 || series != -1 {
		t.Errorf("LeafOf and SeriesOf are %d and %d for %.400v", leaf, series, n)
	}
	for _, v := range []int{math.MinInt, -1, 0, 1, 2, 3, 4, 5, 6, math.MaxInt} {
		if got, ok := impl.DropNode(n, v); ok || !equalNets(got, impl.Net{}) {
			t.Errorf("DropNode(%.400v, %d) = %v, %v", n, v, got, ok)
		}
		if got := impl.WiresAt(n, v); len(got) != 0 {
			t.Errorf("WiresAt(%.400v, %d) = %v", n, v, got)
		}
	}
	if got, steps, ok := impl.ReduceAll(n); ok || steps != 0 || !equalNets(got, impl.Net{}) {
		t.Errorf("ReduceAll(%.400v) = %v, %d, %v", n, got, steps, ok)
	}
	if impl.IsReducible(n) {
		t.Errorf("IsReducible(%.400v) is true", n)
	}
}

func TestSeriesOfNetsNotValid(t *testing.T) {
	for _, n := range badNets() {
		checkNoSeries(t, n)
	}
	// each of these would have a node with one wire or with two, if it were valid
	for _, n := range []impl.Net{
		netOf(3, 2, 0, 0, 2, 1, 1, 2, 2), netOf(3, 2, 1001, 0, 2, 1, 1, 2, 2), netOf(3, 0, 1, 0, 2, 1, 1, 2, 2), netOf(3, -1, 1, 0, 2, 1, 1, 2, 2),
		netOf(3, 2, 1, 0, 2, 201, 1, 2, 2), netOf(3, 2, 1, 0, 2, 1, 1, 2, -1), netOf(3, 2, 1, 1, 2, 2, 0, 2, 1), netOf(3, 2, 1, 0, 2, 1, 2, 1, 2),
		netOf(3, 1, 1, 0, 1, 1, 0, 2, 1, 0, 2, 1), netOf(4, 2, 1, 0, 2, 1, 1, 2, 2), netOf(5, 2, 1, 0, 1, 1, 2, 3, 1, 3, 4, 1), netOf(6, 2, 1, 0, 1, 1, 1, 2, 1, 2, 3, 1, 3, 4, 1, 4, 5, 1),
		netOf(math.MaxInt, 1, 1, 0, 1, 1), netOf(math.MaxInt, math.MaxInt, 1, 0, 1, 1), netOf(2, math.MinInt, 1, 0, 1, 1),
	} {
		checkNoSeries(t, n)
	}
}

// Those of allNets in which a node cannot be reached.
func TestSeriesOfNodesApart(t *testing.T) {
	for n := range allNets() {
		if !isValidNet(n) {
			checkNoSeries(t, n)
		}
	}
}

func TestSeriesKeepsItsArguments(t *testing.T) {
	nets := append(goodNets(), badNets()...)
	for _, c := range append(reduceCases(), stuckCases()...) {
		nets = append(nets, c.n)
	}
	for _, n := range nets {
		for v := -1; v <= impl.MaxNodes; v++ {
			checkKept(t, n, netCall{"DropNode", func(n impl.Net) (impl.Net, bool) { return impl.DropNode(n, v) }})
		}
		checkKept(t, n, netCall{"ReduceAll", func(n impl.Net) (impl.Net, bool) {
			reduced, _, ok := impl.ReduceAll(n)
			return reduced, ok
		}})
		spare := withSpare(n)
		all := spare.Wires[:cap(spare.Wires)]
		before := slices.Clone(all)
		leaf, series, reducible := impl.LeafOf(spare), impl.SeriesOf(spare), impl.IsReducible(spare)
		if !slices.Equal(all, before) {
			t.Errorf("%.400v is changed to %.400v", before, all)
		}
		if impl.LeafOf(n) != leaf || impl.SeriesOf(n) != series || impl.IsReducible(n) != reducible {
			t.Errorf("the nodes of %.400v with one wire or two are not always the same", n)
		}
	}
}

func TestWiresAtIsNew(t *testing.T) {
	for _, n := range goodNets() {
		spare := withSpare(n)
		all := spare.Wires[:cap(spare.Wires)]
		before := slices.Clone(all)
		for v := range n.Nodes {
			first, second := impl.WiresAt(spare, v), impl.WiresAt(spare, v)
			rest := slices.Clone(second)
			first = first[:cap(first)]
			for i := range first {
				first[i] = 77
			}
			if !slices.Equal(second, rest) || !slices.Equal(all, before) {
				t.Errorf("WiresAt(%v, %d) changes its argument or shares memory", n, v)
			}
		}
	}
}

// Every goroutine ends, also if the first of several nodes is the only one that
// is wanted.
func TestSeriesLeavesNoGoroutine(t *testing.T) {
	before := runtime.NumGoroutine()
	star := netOf(5, 1, 1, 0, 1, 1, 0, 2, 1, 0, 3, 1, 0, 4, 1)
	ring := netOf(5, 1, 1, 0, 1, 1, 0, 4, 1, 1, 2, 1, 2, 3, 1, 3, 4, 1)
	for range 100 {
		for _, n := range []impl.Net{star, ring, completeNet(5, 1, 1), {}} {
			impl.LeafOf(n)
			impl.SeriesOf(n)
			impl.ReduceAll(n)
		}
	}
	checkGoroutinesEnd(t, before)
}

// A goroutine that has closed its channel may still need a moment to end.
func checkGoroutinesEnd(t *testing.T, before int) {
	t.Helper()
	for range 1000000 {
		if runtime.NumGoroutine() <= before {
			return
		}
		runtime.Gosched()
	}
	t.Errorf("%d goroutines have become %d", before, runtime.NumGoroutine())
}

// Results do not depend on other calls at the same time.
func TestSeriesAtTheSameTime(t *testing.T) {
	n := netOf(5, 2, 1, 0, 1, 1, 0, 2, 2, 0, 3, 3, 1, 2, 2, 1, 4, 3, 3, 4, 3)
	star := netOf(5, 1, 1, 0, 1, 1, 0, 2, 1, 0, 3, 1, 0, 4, 1)
	want := netOf(2, 2, 1, 0, 1, 3)
	var calls sync.WaitGroup
	for range 50 {
		calls.Go(func() {
			for range 20 {
				if got, steps, ok := impl.ReduceAll(n); !ok || steps != 3 || !equalNets(got, want) {
					t.Errorf("ReduceAll(%v) = %v, %d, %v", n, got, steps, ok)
				}
				if leaf, series := impl.LeafOf(star), impl.SeriesOf(n); leaf != 1 || series != 2 {
					t.Errorf("LeafOf(%v) = %d and SeriesOf(%v) = %d", star, leaf, n, series)
				}
			}
		})
	}
	calls.Wait()
}
