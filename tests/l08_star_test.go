package tests

import (
	"iter"
	"math"
	"math/big"
	"slices"
	"testing"

	"loop.example/g00859/impl"
)

// starNets gives valid networks with small weights and scales, so that the
// meshes and stars in them are valid more often, and then those of seriesNets.
func starNets() iter.Seq[impl.Net] {
	weights := [][]int{{1}, {6}, {1, 2}, {2, 1, 1}, {3, 6, 2}, {2, 3, 6, 1}, {4, 12, 6}, {10, 20, 30, 40}}
	return func(yield func(impl.Net) bool) {
		for n := range netsOfAllEnds() {
			for i, list := range weights {
				small := withScale(copyOf(n), n.Scale%6+i%2+1)
				for j := range small.Wires {
					small.Wires[j].W = list[j%len(list)]
				}
				if !yield(small) {
					return
				}
			}
		}
		for n := range seriesNets() {
			if !yield(n) {
				return
			}
		}
	}
}

// meshedByHand adds to the table of conductances and takes the lines of v out.
func meshedByHand(n impl.Net, v int) (impl.Net, bool) {
	if v < n.Ends || v >= n.Nodes {
		return impl.Net{}, false
	}
	conductances := conductancesOf(n)
	sum := exactSum(conductances[v])
	for a := range n.Nodes {
		for b := range n.Nodes {
			if a != b && a != v && b != v {
				added := new(big.Rat).Mul(conductances[a][v], conductances[v][b])
				conductances[a][b] = added.Add(added.Quo(added, sum), conductances[a][b])
			}
		}
	}
	return netOfConductances(withoutLines(conductances, v), n.Nodes-1, n.Ends)
}

func allMeshedByHand(n impl.Net) (impl.Net, bool) {
	n, ok := dividedByHand(n), true
	for ok && n.Nodes > n.Ends {
		n, ok = meshedByHand(n, n.Nodes-1)
	}
	return n, ok
}

// starredByHand reckons with resistances: that of the star at a corner is the
// product of the two resistances at this corner, divided by the sum of all
// three.
func starredByHand(n impl.Net, corners [3]int) (impl.Net, bool) {
	a, b, c := corners[0], corners[1], corners[2]
	if a < 0 || a >= b || b >= c || c >= n.Nodes || n.Nodes == 5 {
		return impl.Net{}, false
	}
	conductances, around := conductancesOf(n), new(big.Rat)
	last := slices.Repeat([]*big.Rat{new(big.Rat)}, n.Nodes+1)
	resistances := map[int]*big.Rat{}
	for i, corner := range corners {
		conductance := conductances[corners[(i+1)%3]][corners[(i+2)%3]]
		if conductance.Sign() == 0 {
			return impl.Net{}, false
		}
		resistances[corner] = new(big.Rat).Inv(conductance)
		around.Add(around, resistances[corner])
	}
	for _, corner := range corners {
		product := big.NewRat(1, 1)
		for _, other := range corners {
			if other != corner {
				conductances[corner][other] = new(big.Rat)
				product.Mul(product, resistances[other])
			}
		}
		last[corner] = new(big.Rat).Quo(around, product)
	}
	for v := range conductances {
		conductances[v] = append(conductances[v], last[v])
	}
	return netOfConductances(append(conductances, last), n.Nodes+1, n.Ends)
}

func checkMeshed(t *testing.T, cases []dropCase) {
	t.Helper()
	for _, c := range cases {
		if got, ok := impl.StarMesh(c.n, c.v); ok != (c.want.Nodes != 0) || !equalNets(got, c.want) {
			t.Errorf("StarMesh(%v, %d) = %v, %v", c.n, c.v, got, ok)
		}
	}
}

// A node with one wire is left out, and one with two is replaced by one wire.
func TestStarMeshWithFewWires(t *testing.T) {
	tail := netOf(5, 1, 6, 0, 1, 3, 0, 2, 6, 0, 3, 9, 0, 4, 12)
	triangle := netOf(3, 1, 1, 0, 1, 1, 0, 2, 2, 1, 2, 3)
	checkMeshed(t, []dropCase{
		{netOf(2, 1, 7, 0, 1, 200), 1, netOf(1, 1, 1)},
		{netOf(2, 1, 1000, 0, 1, 1), 1, netOf(1, 1, 1)},
		{netOf(3, 2, 6, 0, 1, 4, 1, 2, 3), 2, netOf(2, 2, 3, 0, 1, 2)},
		{tail, 1, netOf(4, 1, 2, 0, 1, 2, 0, 2, 3, 0, 3, 4)},
		{tail, 3, netOf(4, 1, 2, 0, 1, 1, 0, 2, 2, 0, 3, 4)},
		{tail, 4, netOf(4, 1, 2, 0, 1, 1, 0, 2, 2, 0, 3, 3)},
		{netOf(3, 2, 1, 0, 2, 1, 1, 2, 2), 2, netOf(2, 2, 3, 0, 1, 2)},
		{netOf(3, 2, 6, 0, 2, 1, 1, 2, 2), 2, netOf(2, 2, 9, 0, 1, 1)},
		{netOf(3, 1, 2, 0, 1, 3, 1, 2, 4), 1, netOf(2, 1, 7, 0, 1, 6)},
		{netOf(3, 2, 5, 0, 1, 7, 0, 2, 3, 1, 2, 6), 2, netOf(2, 2, 5, 0, 1, 9)},
		{triangle, 1, netOf(2, 1, 4, 0, 1, 11)},
		{triangle, 2, netOf(2, 1, 5, 0, 1, 11)},
		{netOf(4, 2, 1, 0, 2, 3, 0, 3, 1, 1, 2, 6, 1, 3, 1), 2, netOf(3, 2, 1, 0, 1, 2, 0, 2, 1, 1, 2, 1)},
	})
}

// Three wires and four, without and with wires between the ends of the star and
// to other nodes.
func TestStarMeshWithManyWires(t *testing.T) {
	inner := netOf(5, 1, 1, 0, 1, 1, 0, 2, 2, 1, 2, 4, 1, 3, 3, 3, 4, 7)
	checkMeshed(t, []dropCase{
		{netOf(4, 3, 6, 0, 3, 22, 1, 3, 33, 2, 3, 66), 3, netOf(3, 3, 1, 0, 1, 1, 0, 2, 2, 1, 2, 3)},
		{netOf(4, 3, 1, 0, 3, 1, 1, 3, 2, 2, 3, 3), 3, netOf(3, 3, 6, 0, 1, 2, 0, 2, 3, 1, 2, 6)},
		{netOf(4, 3, 1, 0, 3, 3, 1, 3, 3, 2, 3, 3), 3, netOf(3, 3, 1, 0, 1, 1, 0, 2, 1, 1, 2, 1)},
		{netOf(4, 3, 1, 0, 1, 5, 0, 3, 3, 1, 3, 3, 2, 3, 3), 3, netOf(3, 3, 1, 0, 1, 6, 0, 2, 1, 1, 2, 1)},
		{netOf(4, 3, 1, 0, 2, 5, 0, 3, 3, 1, 3, 3, 2, 3, 3), 3, netOf(3, 3, 1, 0, 1, 1, 0, 2, 6, 1, 2, 1)},
		{netOf(4, 3, 1, 0, 3, 3, 1, 2, 5, 1, 3, 3, 2, 3, 3), 3, netOf(3, 3, 1, 0, 1, 1, 0, 2, 1, 1, 2, 6)},
		{netOf(4, 3, 2, 0, 1, 1, 0, 3, 1, 1, 3, 2, 2, 3, 3), 3, netOf(3, 3, 12, 0, 1, 8, 0, 2, 3, 1, 2, 6)},
		{netOf(4, 2, 1, 0, 2, 1, 1, 2, 2, 2, 3, 5), 2, netOf(3, 2, 8, 0, 1, 2, 0, 2, 5, 1, 2, 10)},
		{netOf(4, 1, 1, 0, 1, 1, 1, 2, 2, 1, 3, 5), 1, netOf(3, 1, 8, 0, 1, 2, 0, 2, 5, 1, 2, 10)},
		{netOf(4, 1, 3, 0, 1, 3, 1, 2, 3, 1, 3, 3, 2, 3, 1), 1, netOf(3, 1, 3, 0, 1, 1, 0, 2, 1, 1, 2, 2)},
		{inner, 1, netOf(4, 1, 8, 0, 1, 20, 0, 2, 3, 1, 2, 12, 2, 3, 56)},
		{completeNet(4, 1, 1), 3, netOf(3, 1, 14, 0, 1, 29, 0, 2, 46, 1, 2, 86)},
		{completeNet(4, 1, 1), 1, netOf(3, 1, 10, 0, 1, 24, 0, 2, 35, 1, 2, 80)},
		{netOf(5, 4, 30, 0, 4, 10, 1, 4, 20, 2, 4, 30, 3, 4, 40), 4, netOf(4, 4, 30, 0, 1, 2, 0, 2, 3, 0, 3, 4, 1, 2, 6, 1, 3, 8, 2, 3, 12)},
		{netOf(5, 1, 1, 0, 1, 4, 0, 2, 4, 0, 3, 4, 0, 4, 4, 1, 2, 4, 1, 3, 4, 1, 4, 4), 1, netOf(4, 1, 1, 0, 1, 5, 0, 2, 5, 0, 3, 5, 1, 2, 1, 1, 3, 1, 2, 3, 1)},
		{withEnds(sameWeights(5, 160), 1), 4, withEnds(sameWeights(4, 200), 1)},
		{withEnds(sameWeights(5, 160), 4), 4, withEnds(sameWeights(4, 200), 4)},
	})
}

// The greatest weights and scales, and those beyond them.
func TestStarMeshLimits(t *testing.T) {
	checkMeshed(t, []dropCase{
		{netOf(4, 3, 1, 0, 1, 199, 0, 3, 3, 1, 3, 3, 2, 3, 3), 3, netOf(3, 3, 1, 0, 1, 200, 0, 2, 1, 1, 2, 1)},
		{netOf(4, 3, 1, 0, 1, 200, 0, 3, 3, 1, 3, 3, 2, 3, 3), 3, impl.Net{}},
		{netOf(4, 3, 1, 0, 3, 200, 1, 3, 200, 2, 3, 200), 3, netOf(3, 3, 3, 0, 1, 200, 0, 2, 200, 1, 2, 200)},
		{netOf(4, 3, 1, 0, 3, 200, 1, 3, 200, 2, 3, 199), 3, impl.Net{}},
		{netOf(4, 3, 1, 0, 3, 193, 1, 3, 197, 2, 3, 199), 3, impl.Net{}},
		{netOf(4, 3, 333, 0, 3, 1, 1, 3, 1, 2, 3, 1), 3, netOf(3, 3, 999, 0, 1, 1, 0, 2, 1, 1, 2, 1)},
		{netOf(4, 3, 334, 0, 3, 1, 1, 3, 1, 2, 3, 1), 3, impl.Net{}},
		{netOf(4, 3, 1000, 0, 3, 1, 1, 3, 1, 2, 3, 1), 3, impl.Net{}},
		{netOf(4, 3, 1000, 0, 3, 3, 1, 3, 3, 2, 3, 3), 3, netOf(3, 3, 1000, 0, 1, 1, 0, 2, 1, 1, 2, 1)},
		{netOf(5, 1, 1, 0, 1, 66, 0, 2, 1, 2, 3, 1, 2, 4, 1), 2, netOf(4, 1, 3, 0, 1, 198, 0, 2, 1, 0, 3, 1, 2, 3, 1)},
		{netOf(5, 1, 1, 0, 1, 67, 0, 2, 1, 2, 3, 1, 2, 4, 1), 2, impl.Net{}},
		{netOf(5, 4, 250, 0, 4, 1, 1, 4, 1, 2, 4, 1, 3, 4, 1), 4, withScale(withEnds(sameWeights(4, 1), 4), 1000)},
		{netOf(5, 4, 251, 0, 4, 1, 1, 4, 1, 2, 4, 1, 3, 4, 1), 4, impl.Net{}},
		{withEnds(sameWeights(5, 161), 1), 4, impl.Net{}},
		{withEnds(sameWeights(5, 200), 1), 1, impl.Net{}},
		{withScale(withEnds(sameWeights(5, 200), 1), 1000), 1, withScale(withEnds(sameWeights(4, 1), 1), 4)},
	})
}

func TestStarMeshNone(t *testing.T) {
	star := netOf(4, 3, 6, 0, 3, 22, 1, 3, 33, 2, 3, 66)
	checkMeshed(t, []dropCase{
		{netOf(1, 1, 1), 0, impl.Net{}},
		{netOf(1, 1, 1), 1, impl.Net{}},
		{netOf(1, 1, 1), -1, impl.Net{}},
		{netOf(2, 2, 1, 0, 1, 1), 0, impl.Net{}},
		{netOf(2, 2, 1, 0, 1, 1), 1, impl.Net{}},
		{netOf(2, 2, 1, 0, 1, 1), 2, impl.Net{}},
		{netOf(2, 1, 1, 0, 1, 1), 0, impl.Net{}},
		{star, 0, impl.Net{}},
		{star, 2, impl.Net{}},
		{star, 4, impl.Net{}},
		{star, -1, impl.Net{}},
		{star, math.MaxInt, impl.Net{}},
		{star, math.MinInt, impl.Net{}},
		{withEnds(star, 4), 3, impl.Net{}},
		{netOf(4, 3, 1, 0, 1, 1, 1, 2, 1, 1, 3, 1), 1, impl.Net{}},
		{completeNet(5, 5, 1), 4, impl.Net{}},
		{completeNet(5, 1, 1), 0, impl.Net{}},
		{completeNet(5, 1, 1), 5, impl.Net{}},
	})
}

func TestStarMeshOfAllNets(t *testing.T) {
	found, none := map[int]int{}, map[int]int{}
	for n := range starNets() {
		for v := -1; v <= impl.MaxNodes; v++ {
			want, wanted := meshedByHand(n, v)
			got, ok := impl.StarMesh(n, v)
			if ok != wanted || !equalNets(got, want) {
				t.Fatalf("StarMesh(%v, %d) = %v, %v, not %v, %v", n, v, got, ok, want, wanted)
			}
			if v < n.Ends || v >= n.Nodes {
				continue
			}
			wires := len(neighbours(n, v))
			if dropped, same := impl.DropNode(n, v); wires <= 2 && (same != ok || !equalNets(dropped, got)) {
				t.Fatalf("StarMesh(%v, %d) = %v, %v, and DropNode gives %v, %v", n, v, got, ok, dropped, same)
			}
			if ok {
				found[wires]++
				checkWithoutNode(t, n, v, got)
			} else {
				none[wires]++
			}
		}
	}
	for wires := 1; wires <= 4; wires++ {
		if found[wires] < 200 || none[wires] < 200 && wires > 1 {
			t.Errorf("%d stars of %d wires are replaced, and %d are not", found[wires], wires, none[wires])
		}
	}
}

// Promise 3: if all nodes but the last one are terminals, ResponseNet is the
// network without it.
func TestStarMeshIsResponseNet(t *testing.T) {
	for n := range starNets() {
		if n.Ends == n.Nodes {
			continue
		}
		want, wanted := impl.ResponseNet(withEnds(n, n.Nodes-1))
		if wanted {
			want.Ends = n.Ends
		}
		if got, ok := impl.StarMesh(n, n.Nodes-1); ok != wanted || !equalNets(got, want) {
			t.Fatalf("StarMesh(%v, %d) = %v, %v, not %v, %v", n, n.Nodes-1, got, ok, want, wanted)
		}
	}
}

func TestMeshAll(t *testing.T) {
	cases := []struct{ n, want impl.Net }{
		{netOf(1, 1, 1), netOf(1, 1, 1)},
		{netOf(1, 1, 1000), netOf(1, 1, 1)},
		{impl.Net{Nodes: 1, Ends: 1, Scale: 6, Wires: []impl.Wire{}}, netOf(1, 1, 1)},
		{netOf(2, 1, 7, 0, 1, 200), netOf(1, 1, 1)},
		{netOf(2, 2, 1, 0, 1, 1), netOf(2, 2, 1, 0, 1, 1)},
		{netOf(2, 2, 6, 0, 1, 4), netOf(2, 2, 3, 0, 1, 2)},
		{netOf(2, 2, 1000, 0, 1, 199), netOf(2, 2, 1000, 0, 1, 199)},
		{netOf(3, 3, 1, 0, 1, 1, 0, 2, 2, 1, 2, 3), netOf(3, 3, 1, 0, 1, 1, 0, 2, 2, 1, 2, 3)},
		{netOf(3, 3, 12, 0, 1, 6, 1, 2, 18), netOf(3, 3, 2, 0, 1, 1, 1, 2, 3)},
		{netOf(4, 3, 6, 0, 3, 22, 1, 3, 33, 2, 3, 66), netOf(3, 3, 1, 0, 1, 1, 0, 2, 2, 1, 2, 3)},
		{netOf(3, 2, 6, 0, 1, 4, 1, 2, 3), netOf(2, 2, 3, 0, 1, 2)},
		{netOf(3, 2, 1, 0, 2, 1, 1, 2, 2), netOf(2, 2, 3, 0, 1, 2)},
		{netOf(4, 2, 1, 0, 2, 1, 1, 2, 2, 2, 3, 5), netOf(2, 2, 3, 0, 1, 2)},
		{netOf(4, 2, 1, 0, 2, 1, 0, 3, 1, 1, 2, 1, 1, 3, 1, 2, 3, 5), netOf(2, 2, 1, 0, 1, 1)},
		{netOf(4, 2, 1, 0, 2, 3, 0, 3, 1, 1, 2, 6, 1, 3, 1), netOf(2, 2, 2, 0, 1, 5)},
		{netOf(5, 2, 1, 0, 2, 1, 1, 4, 1, 2, 3, 1, 3, 4, 1), netOf(2, 2, 4, 0, 1, 1)},
		{netOf(5, 4, 30, 0, 4, 10, 1, 4, 20, 2, 4, 30, 3, 4, 40), netOf(4, 4, 30, 0, 1, 2, 0, 2, 3, 0, 3, 4, 1, 2, 6, 1, 3, 8, 2, 3, 12)},
		{netOf(5, 1, 1, 0, 1, 1, 1, 2, 1, 1, 3, 1, 1, 4, 1), netOf(1, 1, 1)},
		{withEnds(sameWeights(5, 8), 2), netOf(2, 2, 1, 0, 1, 20)},
		{withEnds(sameWeights(5, 60), 1), netOf(1, 1, 1)},
		{withEnds(sameWeights(5, 72), 2), netOf(2, 2, 1, 0, 1, 180)},
		{completeNet(5, 5, 6), completeNet(5, 5, 6)},
		// a step fails
		{withEnds(sameWeights(5, 84), 2), impl.Net{}},
		{netOf(3, 2, 1, 0, 2, 199, 1, 2, 197), impl.Net{}},
		{netOf(3, 2, 1000, 0, 2, 1, 1, 2, 1), impl.Net{}},
		{netOf(4, 3, 1, 0, 1, 200, 0, 3, 3, 1, 3, 3, 2, 3, 3), impl.Net{}},
		{completeNet(5, 1, 1), impl.Net{}},
	}
	for _, c := range cases {
		if got, ok := impl.MeshAll(c.n); ok != (c.want.Nodes != 0) || !equalNets(got, c.want) {
			t.Errorf("MeshAll(%v) = %v, %v", c.n, got, ok)
		}
	}
}

// A step may fail although the network of the terminals is valid, and although
// it would be reached in another order.
func TestMeshAllStopsAtTheFirstFailure(t *testing.T) {
	cases := []struct{ n, terminals impl.Net }{
		{netOf(4, 2, 4, 0, 2, 200, 0, 3, 60, 1, 3, 3), netOf(2, 2, 7, 0, 1, 5)},
		{netOf(4, 1, 999, 0, 1, 1, 1, 3, 1, 2, 3, 1), netOf(1, 1, 1)},
		{netOf(3, 1, 223, 0, 2, 12, 1, 2, 101), netOf(1, 1, 1)},
		{withEnds(sameWeights(5, 80), 2), netOf(2, 2, 1, 0, 1, 200)},
		{netOf(5, 2, 1, 0, 1, 7, 1, 2, 1, 2, 4, 199, 3, 4, 197), netOf(2, 2, 1, 0, 1, 7)},
	}
	for _, c := range cases {
		if got, ok := impl.MeshAll(c.n); ok || !equalNets(got, impl.Net{}) {
			t.Errorf("MeshAll(%v) = %v, %v", c.n, got, ok)
		}
		if got, ok := impl.ResponseNet(c.n); !ok || !equalNets(got, c.terminals) {
			t.Errorf("ResponseNet(%v) = %v, %v", c.n, got, ok)
		}
	}
}

// Promise 3: if all stars can be replaced by meshes, these are the network of
// the terminals alone.
func TestMeshAllOfAllNets(t *testing.T) {
	found, stopped := 0, 0
	for n := range starNets() {
		want, wanted := allMeshedByHand(n)
		got, ok := impl.MeshAll(n)
		if ok != wanted || !equalNets(got, want) {
			t.Fatalf("MeshAll(%v) = %v, %v, not %v, %v", n, got, ok, want, wanted)
		}
		terminals, valid := impl.ResponseNet(n)
		switch {
		case ok:
			found++
			checkAlike(t, n, got)
			if !valid || !equalNets(got, terminals) || got.Nodes != n.Ends {
				t.Fatalf("MeshAll(%v) = %v, and ResponseNet is %v, %v", n, got, terminals, valid)
			}
		case valid:
			stopped++
		}
	}
	if min(found, stopped) < 1000 {
		t.Errorf("%d networks are replaced by meshes, and %d could be in another order only", found, stopped)
	}
}

// A network, three nodes of it and the network with a star between them; the
// zero value if there is none.
type triangleCase struct {
	n       impl.Net
	a, b, c int
	want    impl.Net
}

func checkStarred(t *testing.T, cases []triangleCase) {
	t.Helper()
	for _, c := range cases {
		got, ok := impl.TriangleStar(c.n, c.a, c.b, c.c)
		if ok != (c.want.Nodes != 0) || !equalNets(got, c.want) {
			t.Errorf("TriangleStar(%v, %d, %d, %d) = %v, %v", c.n, c.a, c.b, c.c, got, ok)
		}
	}
}

func TestTriangleStar(t *testing.T) {
	triangle := netOf(3, 3, 1, 0, 1, 1, 0, 2, 2, 1, 2, 3)
	four := netOf(4, 2, 1, 0, 1, 1, 0, 2, 2, 0, 3, 7, 1, 2, 3, 2, 3, 5)
	full := withEnds(sameWeights(4, 2), 2)
	checkStarred(t, []triangleCase{
		{triangle, 0, 1, 2, netOf(4, 3, 6, 0, 3, 22, 1, 3, 33, 2, 3, 66)},
		{withEnds(triangle, 1), 0, 1, 2, netOf(4, 1, 6, 0, 3, 22, 1, 3, 33, 2, 3, 66)},
		{withScale(triangle, 11), 0, 1, 2, netOf(4, 3, 6, 0, 3, 2, 1, 3, 3, 2, 3, 6)},
		{withScale(triangle, 5), 0, 1, 2, netOf(4, 3, 30, 0, 3, 22, 1, 3, 33, 2, 3, 66)},
		{netOf(3, 3, 2, 0, 1, 2, 0, 2, 2, 1, 2, 2), 0, 1, 2, netOf(4, 3, 1, 0, 3, 3, 1, 3, 3, 2, 3, 3)},
		{netOf(3, 2, 1, 0, 1, 2, 0, 2, 1, 1, 2, 1), 0, 1, 2, netOf(4, 2, 2, 0, 3, 10, 1, 3, 10, 2, 3, 5)},
		{netOf(3, 2, 2, 0, 1, 2, 0, 2, 1, 1, 2, 1), 0, 1, 2, netOf(4, 2, 4, 0, 3, 10, 1, 3, 10, 2, 3, 5)},
		{netOf(3, 3, 1, 0, 1, 2, 0, 2, 4, 1, 2, 4), 0, 1, 2, netOf(4, 3, 1, 0, 3, 8, 1, 3, 8, 2, 3, 16)},
		{four, 0, 1, 2, netOf(5, 2, 6, 0, 3, 42, 0, 4, 22, 1, 4, 33, 2, 3, 30, 2, 4, 66)},
		{netOf(4, 2, 3, 0, 1, 1, 0, 2, 2, 0, 3, 2, 1, 2, 3, 2, 3, 1), 0, 2, 3, netOf(5, 2, 3, 0, 1, 1, 0, 4, 8, 1, 2, 3, 2, 4, 4, 3, 4, 4)},
		{full, 0, 1, 2, netOf(5, 2, 1, 0, 3, 2, 0, 4, 6, 1, 3, 2, 1, 4, 6, 2, 3, 2, 2, 4, 6)},
		{full, 0, 1, 3, netOf(5, 2, 1, 0, 2, 2, 0, 4, 6, 1, 2, 2, 1, 4, 6, 2, 3, 2, 3, 4, 6)},
		{full, 0, 2, 3, netOf(5, 2, 1, 0, 1, 2, 0, 4, 6, 1, 2, 2, 1, 3, 2, 2, 4, 6, 3, 4, 6)},
		{full, 1, 2, 3, netOf(5, 2, 1, 0, 1, 2, 0, 2, 2, 0, 3, 2, 1, 4, 6, 2, 4, 6, 3, 4, 6)},
		{netOf(4, 4, 1, 0, 1, 9, 1, 2, 1, 1, 3, 1, 2, 3, 2), 1, 2, 3, netOf(5, 4, 2, 0, 1, 18, 1, 4, 5, 2, 4, 10, 3, 4, 10)},
	})
}

// The greatest weights and scales, and those beyond them: of the star, of
// another wire, and by the common scale.
func TestTriangleStarLimits(t *testing.T) {
	beside := func(scale int, weight int) impl.Net {
		return netOf(4, 4, scale, 0, 1, weight, 1, 2, 1, 1, 3, 1, 2, 3, 2)
	}
	checkStarred(t, []triangleCase{
		{netOf(3, 3, 1, 0, 1, 40, 0, 2, 40, 1, 2, 80), 0, 1, 2, netOf(4, 3, 1, 0, 3, 100, 1, 3, 200, 2, 3, 200)},
		{netOf(3, 3, 1, 0, 1, 41, 0, 2, 41, 1, 2, 82), 0, 1, 2, impl.Net{}},
		{netOf(3, 3, 1, 0, 1, 66, 0, 2, 66, 1, 2, 66), 0, 1, 2, netOf(4, 3, 1, 0, 3, 198, 1, 3, 198, 2, 3, 198)},
		{netOf(3, 3, 1, 0, 1, 67, 0, 2, 67, 1, 2, 67), 0, 1, 2, impl.Net{}},
		{netOf(3, 3, 3, 0, 1, 200, 0, 2, 200, 1, 2, 200), 0, 1, 2, netOf(4, 3, 1, 0, 3, 200, 1, 3, 200, 2, 3, 200)},
		{netOf(3, 3, 2, 0, 1, 200, 0, 2, 200, 1, 2, 200), 0, 1, 2, impl.Net{}},
		{netOf(3, 3, 1000, 0, 1, 200, 0, 2, 200, 1, 2, 200), 0, 1, 2, netOf(4, 3, 5, 0, 3, 3, 1, 3, 3, 2, 3, 3)},
		{netOf(3, 3, 1000, 0, 1, 200, 0, 2, 199, 1, 2, 197), 0, 1, 2, impl.Net{}},
		{netOf(3, 3, 1, 0, 1, 1, 0, 2, 1, 1, 2, 200), 0, 1, 2, impl.Net{}},
		{beside(1, 100), 1, 2, 3, netOf(5, 4, 2, 0, 1, 200, 1, 4, 5, 2, 4, 10, 3, 4, 10)},
		{beside(1, 101), 1, 2, 3, impl.Net{}},
		{beside(500, 1), 1, 2, 3, netOf(5, 4, 1000, 0, 1, 2, 1, 4, 5, 2, 4, 10, 3, 4, 10)},
		{beside(501, 1), 1, 2, 3, impl.Net{}},
		{netOf(4, 2, 1, 0, 1, 1, 0, 2, 2, 0, 3, 7, 1, 2, 3, 2, 3, 5), 0, 2, 3, impl.Net{}},
	})
}

// With MaxNodes nodes there is no number for another one.
func TestTriangleStarOfTooManyNodes(t *testing.T) {
	for ends := 1; ends <= impl.MaxNodes; ends++ {
		n := withEnds(sameWeights(5, 1), ends)
		checkStarred(t, []triangleCase{{n, 0, 1, 2, impl.Net{}}, {n, 1, 2, 4, impl.Net{}}, {n, 2, 3, 4, impl.Net{}}})
	}
}

// Nodes that are not in ascending order or do not exist, and triangles of which
// one wire is not there.
func TestTriangleStarNone(t *testing.T) {
	triangle := netOf(3, 3, 1, 0, 1, 1, 0, 2, 2, 1, 2, 3)
	ring := netOf(4, 2, 1, 0, 1, 1, 0, 3, 1, 1, 2, 1, 2, 3, 1)
	checkStarred(t, []triangleCase{
		{netOf(1, 1, 1), 0, 0, 0, impl.Net{}},
		{netOf(1, 1, 1), 0, 1, 2, impl.Net{}},
		{netOf(2, 2, 1, 0, 1, 1), 0, 1, 2, impl.Net{}},
		{netOf(2, 2, 1, 0, 1, 1), 0, 1, 1, impl.Net{}},
		{triangle, 0, 2, 1, impl.Net{}},
		{triangle, 1, 0, 2, impl.Net{}},
		{triangle, 1, 2, 0, impl.Net{}},
		{triangle, 2, 0, 1, impl.Net{}},
		{triangle, 2, 1, 0, impl.Net{}},
		{triangle, 0, 0, 1, impl.Net{}},
		{triangle, 0, 1, 1, impl.Net{}},
		{triangle, 1, 1, 1, impl.Net{}},
		{triangle, -1, 0, 1, impl.Net{}},
		{triangle, 0, 1, 3, impl.Net{}},
		{triangle, 1, 2, 3, impl.Net{}},
		{triangle, 3, 4, 5, impl.Net{}},
		{triangle, math.MinInt, 0, math.MaxInt, impl.Net{}},
		{triangle, 0, 1, math.MaxInt, impl.Net{}},
		{triangle, math.MinInt, 1, 2, impl.Net{}},
		{netOf(3, 2, 1, 0, 2, 1, 1, 2, 2), 0, 1, 2, impl.Net{}},
		{netOf(3, 2, 1, 0, 1, 1, 1, 2, 2), 0, 1, 2, impl.Net{}},
		{netOf(3, 2, 1, 0, 1, 1, 0, 2, 2), 0, 1, 2, impl.Net{}},
		{ring, 0, 1, 2, impl.Net{}},
		{ring, 0, 1, 3, impl.Net{}},
		{ring, 0, 2, 3, impl.Net{}},
		{ring, 1, 2, 3, impl.Net{}},
	})
}

// triples gives all lists of three nodes from low to high.
func triples(low int, high int) [][3]int {
	var list [][3]int
	for a := low; a <= high; a++ {
		for b := low; b <= high; b++ {
			for c := low; c <= high; c++ {
				list = append(list, [3]int{a, b, c})
			}
		}
	}
	return list
}

func TestTriangleStarOfAllNets(t *testing.T) {
	found, none := 0, 0
	for n := range starNets() {
		for _, corners := range triples(-1, n.Nodes) {
			want, wanted := starredByHand(n, corners)
			got, ok := impl.TriangleStar(n, corners[0], corners[1], corners[2])
			if ok != wanted || !equalNets(got, want) {
				t.Fatalf("TriangleStar(%v, %v) = %v, %v, not %v, %v", n, corners, got, ok, want, wanted)
			}
			if ok {
				found++
				checkBackToTriangle(t, n, corners, got)
			} else if n.Nodes < impl.MaxNodes && corners[0] < corners[1] && corners[1] < corners[2] {
				none++
			}
		}
	}
	if min(found, none) < 400 {
		t.Errorf("%d triangles are replaced, and %d are not", found, none)
	}
}

// Promise 4: a triangle is replaced by a star with the same response and with
// the same resistances, and the star by the triangle again.
func checkBackToTriangle(t *testing.T, n impl.Net, corners [3]int, starred impl.Net) {
	t.Helper()
	back, ok := impl.StarMesh(starred, n.Nodes)
	if want := dividedByHand(n); !ok || !equalNets(back, want) || impl.WeightAt(starred, n.Nodes) == 0 {
		t.Fatalf("with a star at %v, %v is %v, and with a triangle again %v, %v", corners, n, starred, back, ok)
	}
	checkAlike(t, n, starred)
	checkWithoutNode(t, starred, n.Nodes, back)
	if around := impl.WiresAt(starred, n.Nodes); !slices.Equal(around, corners[:]) {
		t.Fatalf("the star of %v at %v joins %v", starred, corners, around)
	}
}

func TestAllTriangles(t *testing.T) {
	found := 0
	for i := range 15 * 15 * 15 {
		n := netOf(3, i%3+1, i%7+1, 0, 1, i%15+1, 0, 2, i/15%15+1, 1, 2, i/15/15+1)
		want, wanted := starredByHand(n, [3]int{0, 1, 2})
		got, ok := impl.TriangleStar(n, 0, 1, 2)
		if ok != wanted || !equalNets(got, want) {
			t.Fatalf("TriangleStar(%v, 0, 1, 2) = %v, %v, not %v, %v", n, got, ok, want, wanted)
		}
		if ok {
			found++
			checkBackToTriangle(t, n, [3]int{0, 1, 2}, got)
		}
	}
	if found < 500 {
		t.Errorf("only %d triangles are replaced", found)
	}
}

// Promise 4: a star of three wires without wires between its ends is replaced
// by a triangle, and this by the star again.
func TestStarBackToStar(t *testing.T) {
	stars := 0
	for i := range 12 * 12 * 12 {
		x, y, z, scale := i%12+1, i/12%12+1, i/12/12+1, i%5+1
		for ends := 1; ends <= 3; ends++ {
			alone := netOf(4, ends, scale, 0, 3, x, 1, 3, y, 2, 3, z)
			tail := netOf(5, ends, scale, 0, 3, x, 0, 4, y, 1, 4, z, 2, 4, x)
			for _, n := range []impl.Net{alone, tail} {
				last := n.Nodes - 1
				mesh, ok := impl.StarMesh(n, last)
				if !ok {
					continue
				}
				stars++
				got, again := impl.TriangleStar(mesh, 0, 1, 2)
				if !again || !equalNets(got, dividedByHand(n)) {
					t.Fatalf("%v has the mesh %v, and this the star %v, %v", n, mesh, got, again)
				}
			}
		}
	}
	if stars < 1000 {
		t.Errorf("only %d stars are replaced", stars)
	}
}

// Promise 3: no potentials tell networks apart, whatever has been replaced
// inside.
func TestReplacedNetsCannotBeToldApart(t *testing.T) {
	told, i := 0, 0
	for n := range starNets() {
		if i++; i%3 != 0 {
			continue
		}
		for _, other := range replacedNets(n) {
			told++
			if !impl.AreAlike(n, other) {
				t.Fatalf("%v and %v are not alike", n, other)
			}
			for _, volts := range voltLists(n.Ends)[4:6] {
				before, _ := impl.CurrentsFor(n, volts)
				after, ok := impl.CurrentsFor(other, volts)
				power, _ := impl.PowerFor(n, volts)
				if got, same := impl.PowerFor(other, volts); !ok || !slices.Equal(before, after) || !same || got != power {
					t.Fatalf("%v tell %v and %v apart", volts, n, other)
				}
			}
		}
	}
	if told < 10000 {
		t.Errorf("only %d networks are made by replacements", told)
	}
}

// replacedNets gives what becomes of a network by one replacement, or by that of
// a triangle and then of a node that was there before.
func replacedNets(n impl.Net) []impl.Net {
	var list []impl.Net
	add := func(other impl.Net, ok bool) bool {
		if ok {
			list = append(list, other)
		}
		return ok
	}
	add(impl.MeshAll(n))
	for v := n.Ends; v < n.Nodes; v++ {
		add(impl.StarMesh(n, v))
	}
	for c := range n.Nodes {
		for b := range c {
			for a := range b {
				if !add(impl.TriangleStar(n, a, b, c)) {
					continue
				}
				starred := list[len(list)-1]
				add(impl.MeshAll(starred))
				for v := n.Ends; v < n.Nodes; v++ {
					add(impl.StarMesh(starred, v))
				}
			}
		}
	}
	return list
}

func checkNoStar(t *testing.T, n impl.Net) {
	t.Helper()
	for _, v := range []int{math.MinInt, -1, 0, 1, 2, 3, 4, 5, 6, math.MaxInt} {
		if got, ok := impl.StarMesh(n, v); ok || !equalNets(got, impl.Net{}) {
			t.Errorf("StarMesh(%.400v, %d) = %v, %v", n, v, got, ok)
		}
	}
	if got, ok := impl.MeshAll(n); ok || !equalNets(got, impl.Net{}) {
		t.Errorf("MeshAll(%.400v) = %v, %v", n, got, ok)
	}
	for _, corners := range append(triples(-1, 4), [3]int{math.MinInt, 0, math.MaxInt}) {
		if got, ok := impl.TriangleStar(n, corners[0], corners[1], corners[2]); ok || !equalNets(got, impl.Net{}) {
			t.Errorf("TriangleStar(%.400v, %v) = %v, %v", n, corners, got, ok)
		}
	}
}

func TestStarsOfNetsNotValid(t *testing.T) {
	for _, n := range badNets() {
		checkNoStar(t, n)
	}
	// each of these would have a star or a triangle, if it were valid
	for _, n := range []impl.Net{
		netOf(4, 3, 0, 0, 3, 1, 1, 3, 1, 2, 3, 1), netOf(4, 3, 1001, 0, 3, 3, 1, 3, 3, 2, 3, 3), netOf(4, 0, 1, 0, 3, 1, 1, 3, 1, 2, 3, 1), netOf(4, -1, 1, 0, 3, 1, 1, 3, 1, 2, 3, 1),
		netOf(4, 3, 3, 0, 3, 300, 1, 3, 300, 2, 3, 300), netOf(4, 3, 1, 0, 3, 1, 1, 3, 1, 2, 3, 0), netOf(4, 3, 1, 0, 3, 1, 1, 3, 1, 2, 3, -1), netOf(4, 3, 1, 1, 3, 1, 0, 3, 1, 2, 3, 1), netOf(4, 3, 1, 0, 3, 1, 1, 3, 1, 3, 2, 1),
		netOf(5, 3, 1, 0, 3, 1, 1, 3, 1, 2, 3, 1), netOf(4, 1, 1, 0, 1, 1, 2, 3, 1), netOf(6, 5, 1, 0, 5, 1, 1, 5, 1, 2, 5, 1, 3, 5, 1, 4, 5, 1), netOf(4, 5, 1, 0, 1, 1, 0, 2, 1, 1, 2, 1, 2, 3, 1),
		netOf(3, 3, 0, 0, 1, 1, 0, 2, 1, 1, 2, 1), netOf(3, 3, 1001, 0, 1, 1, 0, 2, 1, 1, 2, 1), netOf(3, 3, 1, 0, 1, 1, 0, 2, 201, 1, 2, 1), netOf(3, 3, 1, 0, 1, -1, 0, 2, -1, 1, 2, -1),
		netOf(3, 3, 1, 0, 2, 1, 0, 1, 1, 1, 2, 1), netOf(3, 3, 1, 0, 1, 1, 0, 2, 1, 1, 2, 1, 1, 2, 1), netOf(4, 3, 1, 0, 1, 1, 0, 2, 1, 1, 2, 1), netOf(2, 2, 1, 0, 1, 1, 0, 2, 1, 1, 2, 1),
		netOf(math.MaxInt, 3, 1, 0, 1, 1, 0, 2, 1, 1, 2, 1), netOf(3, math.MinInt, 1, 0, 1, 1, 0, 2, 1, 1, 2, 1),
	} {
		checkNoStar(t, n)
	}
}

// Those of allNets in which a node cannot be reached.
func TestStarsOfNodesApart(t *testing.T) {
	for n := range allNets() {
		if !isValidNet(n) {
			checkNoStar(t, n)
		}
	}
}

// starMatrix is the response of a star: each terminal has a number, and the
// conductance between two of them is the product of theirs over one divisor.
func starMatrix(divisor int, numbers ...int) [][]impl.Ratio {
	var entries []int
	sum := 0
	for _, number := range numbers {
		sum += number
	}
	for i, number := range numbers {
		for j, other := range numbers {
			if i == j {
				entries = append(entries, number*(sum-number))
			} else {
				entries = append(entries, -number*other)
			}
		}
	}
	return wholeRows(len(numbers), divisor, entries...)
}

// withConductance changes that between two terminals, and the two elements on
// the diagonal with it.
func withConductance(m [][]impl.Ratio, i int, j int, conductance impl.Ratio) [][]impl.Ratio {
	m = copyOfRatioRows(m)
	change := impl.RatioSum(conductance, m[i][j])
	m[i][i], m[j][j] = impl.RatioSum(m[i][i], change), impl.RatioSum(m[j][j], change)
	m[i][j] = ratio(-conductance.N, conductance.D)
	m[j][i] = m[i][j]
	return m
}

// A matrix with the conductances of its star; nil if it is not that of a star,
// or if a fraction is not valid.
type matrixCase struct {
	m      [][]impl.Ratio
	isStar bool
	want   []impl.Ratio
}

func checkMatrices(t *testing.T, cases []matrixCase) {
	t.Helper()
	for _, c := range cases {
		if got := impl.IsStarMatrix(c.m); got != c.isStar || reckonedIsStar(c.m) != got {
			t.Errorf("IsStarMatrix(%v) is %v", c.m, got)
		}
		want, wanted := reckonedWeights(c.m)
		if got, ok := impl.StarWeights(c.m); ok != (c.want != nil) || !slices.Equal(got, c.want) || wanted != ok || !slices.Equal(want, got) {
			t.Errorf("StarWeights(%v) = %v, %v", c.m, got, ok)
		}
	}
}

// reckonedIsStar follows the document with the other way to multiply fractions.
func reckonedIsStar(m [][]impl.Ratio) bool {
	is := len(m) >= 3 && reckonedIsResponse(m)
	for _, row := range m {
		is = is && !slices.Contains(row, ratio(0, 1))
	}
	if !is {
		return false
	}
	for _, first := range triples(0, len(m)-1) {
		i, j, k := first[0], first[1], first[2]
		for l := range m {
			if i == j || i == k || j == k || l == i || l == j || l == k {
				continue
			}
			product := timesOperation.reckon(m[i][j], m[k][l])
			is = is && product != impl.Ratio{} && product == timesOperation.reckon(m[i][l], m[k][j])
		}
	}
	return is
}

func reckonedWeights(m [][]impl.Ratio) ([]impl.Ratio, bool) {
	if !reckonedIsStar(m) {
		return nil, false
	}
	var weights []impl.Ratio
	for i := range m {
		others := slices.Delete([]int{0, 1, 2}, min(i, 2), min(i, 2)+1)
		j, k := others[0], others[1]
		product := timesOperation.reckon(m[i][j], m[i][k])
		inverse := asRatio(new(big.Rat).Inv(exact(m[j][k])))
		weight := diffOperation.reckon(m[i][i], timesOperation.reckon(product, inverse))
		if weight == (impl.Ratio{}) {
			return nil, false
		}
		weights = append(weights, weight)
	}
	return weights, true
}

func checkReckoned(t *testing.T, m [][]impl.Ratio) bool {
	t.Helper()
	is := reckonedIsStar(m)
	if impl.IsStarMatrix(m) != is {
		t.Fatalf("IsStarMatrix(%v) is %v", m, !is)
	}
	want, wanted := reckonedWeights(m)
	if got, ok := impl.StarWeights(m); ok != wanted || !slices.Equal(got, want) {
		t.Fatalf("StarWeights(%v) = %v, %v, not %v, %v", m, got, ok, want, wanted)
	}
	return is
}

func TestStarMatrices(t *testing.T) {
	checkMatrices(t, []matrixCase{
		{wholeRows(3, 1, 3, -1, -2, -1, 4, -3, -2, -3, 5), true, ratiosOf(11, 3, 11, 2, 11, 1)},
		{wholeRows(3, 7, 3, -1, -2, -1, 4, -3, -2, -3, 5), true, ratiosOf(11, 21, 11, 14, 11, 7)},
		{wholeRows(3, 1, 2, -1, -1, -1, 2, -1, -1, -1, 2), true, ratiosOf(3, 1, 3, 1, 3, 1)},
		{wholeRows(3, 6, 5, -2, -3, -2, 8, -6, -3, -6, 9), true, ratiosOf(1, 1, 2, 1, 3, 1)},
		{wholeRows(4, 30, 9, -2, -3, -4, -2, 16, -6, -8, -3, -6, 21, -12, -4, -8, -12, 24), true, ratiosOf(1, 3, 2, 3, 1, 1, 4, 3)},
		{wholeRows(4, 1, 3, -1, -1, -1, -1, 3, -1, -1, -1, -1, 3, -1, -1, -1, -1, 3), true, ratiosOf(4, 1, 4, 1, 4, 1, 4, 1)},
		{starMatrix(10, 1, 2, 3, 4), true, ratiosOf(1, 1, 2, 1, 3, 1, 4, 1)},
		{starMatrix(10, 4, 3, 1, 2), true, ratiosOf(4, 1, 3, 1, 1, 1, 2, 1)},
		{starMatrix(5, 1, 1, 1, 1, 1), true, ratiosOf(1, 1, 1, 1, 1, 1, 1, 1, 1, 1)},
		{starMatrix(15, 5, 4, 3, 2, 1), true, ratiosOf(5, 1, 4, 1, 3, 1, 2, 1, 1, 1)},
		{starMatrix(30, 1, 2, 3, 4, 5), true, ratiosOf(1, 2, 1, 1, 3, 2, 2, 1, 5, 2)},
	})
}

// Matrices with fewer than 3 rows or more than MaxNodes, with an element 0,
// that are no responses, and that are not those of a star.
func TestOtherMatricesThanStars(t *testing.T) {
	none := []matrixCase{}
	for _, m := range [][][]impl.Ratio{
		nil, {}, {nil}, {{}}, {nil, nil, nil}, ratioRows(1, 0, 1), ratioRows(1, 1, 1),
		wholeRows(2, 1, 1, -1, -1, 1), wholeRows(2, 3, 2, -2, -2, 2), wholeRows(2, 1, 0, 0, 0, 0), starMatrix(6, 1, 1, 1, 1, 1, 1),
		wholeRows(3, 1, 0, 0, 0, 0, 0, 0, 0, 0, 0), wholeRows(4, 1, make([]int, 16)...), wholeRows(5, 1, make([]int, 25)...),
		wholeRows(3, 1, 1, -1, 0, -1, 3, -2, 0, -2, 2), wholeRows(3, 1, 1, 0, -1, 0, 2, -2, -1, -2, 3), wholeRows(3, 1, 3, -1, -2, -1, 1, 0, -2, 0, 2), wholeRows(3, 1, 0, 0, 0, 0, 1, -1, 0, -1, 1),
		wholeRows(3, 1, 3, -1, -2, -1, 4, -3, -2, -3, 6), wholeRows(3, 1, 3, -2, -1, -1, 4, -3, -2, -3, 5), wholeRows(3, 1, 1, 1, -2, 1, 2, -3, -2, -3, 5), wholeRows(3, 1, 2, 2, 2, 2, 2, 2, 2, 2, 2),
		{ratiosOf(2, 1, -1, 1, -1, 1), ratiosOf(-1, 1, 2, 1), ratiosOf(-1, 1, -1, 1, 2, 1)}, {ratiosOf(2, 1, -1, 1, -1, 1), ratiosOf(-1, 1, 2, 1, -1, 1), nil}, {ratiosOf(2, 1, -1, 1, -1, 1), ratiosOf(-1, 1, 2, 1, -1, 1)},
		ratioRows(3, 4, 2, -1, 1, -1, 1, -1, 1, 2, 1, -1, 1, -1, 1, -1, 1, 2, 1), ratioRows(3, 0, 0, 0, 0, 0, 0, 0, 0, 0, 0, 0, 0, 0, 0, 0, 0, 0, 0),
		wholeRows(4, 1, 6, -1, -2, -3, -1, 10, -4, -5, -2, -4, 12, -6, -3, -5, -6, 14), wholeRows(4, 1, 2, -1, 0, -1, -1, 2, -1, 0, 0, -1, 2, -1, -1, 0, -1, 2), wholeRows(4, 1, 4, -2, -1, -1, -2, 4, -1, -1, -1, -1, 4, -2, -1, -1, -2, 4),
	} {
		none = append(none, matrixCase{m: m})
	}
	checkMatrices(t, none)
}

// With three rows every response without an element 0 is that of a star. With
// more, a single conductance that is different is seen.
func TestStarMatricesChanged(t *testing.T) {
	for _, numbers := range [][]int{{1, 2, 3}, {1, 1, 1, 1}, {1, 2, 3, 4}, {2, 2, 5, 7}, {1, 1, 1, 1, 1}, {1, 2, 3, 4, 5}, {6, 1, 6, 2, 2}} {
		m := starMatrix(60, numbers...)
		for i := range m {
			for j := range i {
				for _, conductance := range ratiosOf(1, 60, 1, 30, 1, 10, 1, 5, 1, 1, 7, 3) {
					changed := withConductance(m, i, j, conductance)
					same := len(m) == 3 || equalRatioRows(m, changed)
					if got := impl.IsStarMatrix(changed); got != same || reckonedIsStar(changed) != same {
						t.Errorf("IsStarMatrix(%v) is %v", changed, got)
					}
				}
				without := withConductance(m, i, j, ratio(0, 1))
				if impl.IsStarMatrix(without) || !impl.IsResponse(without) {
					t.Errorf("IsStarMatrix(%v) is true, or it is no response", without)
				}
			}
		}
	}
}

// All responses of four terminals with small conductances, and of five in which
// the first four are those of a star.
func TestAllStarMatrices(t *testing.T) {
	stars, others := 0, 0
	check := func(m [][]impl.Ratio) {
		if checkReckoned(t, m) {
			stars++
		} else {
			others++
		}
	}
	for i := range 4 * 4 * 4 * 4 * 4 * 4 {
		a, b, c, d, e, f := i%4, i/4%4, i/16%4, i/64%4, i/256%4, i/1024
		check(wholeRows(4, i%7+1, a+b+c, -a, -b, -c, -a, a+d+e, -d, -e, -b, -d, b+d+f, -f, -c, -e, -f, c+e+f))
		m := starMatrix(1, a+1, b+1, c+1, d+1, 1)
		check(m)
		check(withConductance(m, 4, e, ratio(f+1, 1)))
	}
	if min(stars, others) < 1000 {
		t.Errorf("%d matrices are those of stars, and %d are not", stars, others)
	}
}

// Conductances whose products are not valid fractions any more.
func TestStarMatrixOfGreatTerms(t *testing.T) {
	quarters := func(divisor int) []impl.Ratio { return slices.Repeat([]impl.Ratio{lowestTerms(4, divisor)}, 4) }
	checkMatrices(t, []matrixCase{
		{starMatrix(1000000, 1, 1, 1, 1), true, quarters(1000000)},
		{starMatrix(1000001, 1, 1, 1, 1), true, nil},
		{starMatrix(31622776, 1, 1, 1, 1), true, nil},
		{starMatrix(31622777, 1, 1, 1, 1), false, nil},
		{starMatrix(31622777, 1, 1, 1), true, nil},
		{starMatrix(billion, 1, 1, 1), true, nil},
		{starMatrix(billion+1, 1, 1, 1), false, nil},
		{starMatrix(1000000, 1, 1, 1), true, slices.Repeat(ratiosOf(3, 1000000), 3)},
		{starMatrix(1000001, 1, 1, 1), true, nil},
		{starMatrix(1, 1000, 1000, 1000), true, slices.Repeat(ratiosOf(3000000, 1), 3)},
		{starMatrix(1, 1000, 1000, 1001), true, nil},
		{starMatrix(1, 1000, 1000, 1000, 1000), true, slices.Repeat(ratiosOf(4000000, 1), 4)},
		{starMatrix(1, 1001, 1001, 1001, 1001), true, nil},
	})
}

// Of five terminals, only the four with the smaller numbers have a product that
// is not valid.
func TestStarMatrixOfOneGreatProduct(t *testing.T) {
	for i := range 5 {
		for _, divisor := range []int{31622776, 31622777} {
			numbers := []int{1, 1, 1, 1, 1}
			numbers[i] = divisor
			m := starMatrix(divisor, numbers...)
			if fits := divisor == 31622776; checkReckoned(t, m) != fits || !impl.IsResponse(m) {
				t.Errorf("IsStarMatrix(%v) is %v", m, !fits)
			}
		}
	}
}

// A conductance is recovered with the two least other terminals, also if a
// fraction is not valid with these alone, or with others alone.
func TestStarWeightsOfTheLeastTerminals(t *testing.T) {
	whole, part := ratio(1000004, 1), ratio(1000004, 1000001)
	checkMatrices(t, []matrixCase{
		{starMatrix(1000001, 1000001, 1, 1, 1), true, []impl.Ratio{whole, part, part, part}},
		{starMatrix(1000001, 1, 1000001, 1, 1), true, []impl.Ratio{part, whole, part, part}},
		{starMatrix(1000001, 1, 1, 1000001, 1), true, nil},
		{starMatrix(1000001, 1, 1, 1, 1000001), true, nil},
	})
}

// The product, the inverse and their product are valid, but the difference is
// so only if the product of two divisors is not too great.
func TestStarWeightsWithoutDifference(t *testing.T) {
	apart := func(a int, b int) [][]impl.Ratio {
		m := wholeRows(3, 1, 1, -1, 0, -1, 2, -1, 0, -1, 1)
		return withConductance(withConductance(m, 0, 1, ratio(1, a)), 0, 2, ratio(1, b))
	}
	checkMatrices(t, []matrixCase{
		{apart(2, 3), true, ratiosOf(1, 1, 3, 1, 2, 1)},
		{apart(31622, 31623), true, []impl.Ratio{lowestTerms(31622+31623+1, 31622*31623), lowestTerms(31622+31623+1, 31622), lowestTerms(31622+31623+1, 31623)}},
		{apart(31623, 31624), true, nil},
	})
}

// Elements that are not valid fractions, or that are others than the response
// has, are no star.
func TestStarMatricesWithOtherElements(t *testing.T) {
	for _, numbers := range [][]int{{1, 2, 3}, {1, 2, 3, 4}, {5, 4, 3, 2, 1}} {
		m := starMatrix(7, numbers...)
		for i := range m {
			for j := range m {
				for _, element := range append(badRatios(), ratiosOf(0, 1, 1, 1, -100, 1, 100, 1, -1, topDiv)...) {
					one := copyOfRatioRows(m)
					one[i][j] = element
					two := copyOfRatioRows(one)
					two[j][i] = element
					checkMatrices(t, []matrixCase{{m: one}, {m: two}})
				}
			}
		}
	}
}

// starOf has one inner node, with a wire to each terminal.
func starOf(scale int, weights ...int) impl.Net {
	n := impl.Net{Nodes: len(weights) + 1, Ends: len(weights), Scale: scale}
	for v, weight := range weights {
		n.Wires = append(n.Wires, impl.Wire{A: v, B: len(weights), W: weight})
	}
	return n
}

func conductancesByHand(n impl.Net) []impl.Ratio {
	var list []impl.Ratio
	for _, w := range n.Wires {
		list = append(list, lowestTerms(w.W, n.Scale))
	}
	return list
}

// Promise 4: the conductances of every star are recovered from its response, and
// from that of its mesh.
func TestStarsAreRecovered(t *testing.T) {
	meshes := 0
	for i := range 2 * 12 * 12 * 12 * 12 {
		list := []int{1, 2, 3, 4, 6, 30, 60, 101, 193, 197, 199, 200}
		weights := []int{list[i/2%12], list[i/24%12], list[i/288%12], list[i/3456]}[:i%2+3]
		n := starOf([]int{1, 2, 7, 60, 997, 1000}[i/5%6], weights...)
		m, _ := impl.ResponseOf(n)
		got, ok := impl.StarWeights(m)
		if !ok || !slices.Equal(got, conductancesByHand(n)) || !impl.IsStarMatrix(m) {
			t.Fatalf("StarWeights(%v) = %v, %v for %v", m, got, ok, n)
		}
		if mesh, meshed := impl.MeshAll(n); meshed {
			meshes++
			response, _ := impl.ResponseOf(mesh)
			if again, same := impl.StarWeights(response); !same || !slices.Equal(again, got) {
				t.Fatalf("StarWeights(%v) = %v, %v for the mesh %v of %v", response, again, same, mesh, n)
			}
		}
	}
	if meshes < 1000 {
		t.Errorf("only %d stars have a mesh that is valid", meshes)
	}
}

// Promise 4: the star of the response of a triangle is that of TriangleStar.
func TestTrianglesAreRecoveredAsStars(t *testing.T) {
	found := 0
	for i := range 12 * 12 * 12 {
		n := netOf(3, 3, i%7+1, 0, 1, i%12+1, 0, 2, i/12%12+1, 1, 2, i/12/12+1)
		m, _ := impl.ResponseOf(n)
		got, ok := impl.StarWeights(m)
		if !impl.IsStarMatrix(m) || !ok {
			t.Fatalf("StarWeights(%v) = %v, %v for %v", m, got, ok, n)
		}
		if starred, is := impl.TriangleStar(n, 0, 1, 2); is {
			found++
			if !slices.Equal(got, conductancesByHand(starred)) {
				t.Fatalf("StarWeights(%v) = %v, and the star is %v", m, got, starred)
			}
		}
	}
	if found < 300 {
		t.Errorf("only %d triangles have a star that is valid", found)
	}
}

// Promise 4: five terminals whose conductances are products are a star too,
// although it has too many nodes for a network.
func TestFiveTerminalsAreRecoveredAsStars(t *testing.T) {
	for i := range 6 * 6 * 6 * 6 * 6 {
		numbers := []int{i%6 + 1, i/6%6 + 1, i/36%6 + 1, i/216%6 + 1, i/1296 + 1}
		n, sum := withScale(completeNet(5, 5, 1), i%5+1), 0
		for j, w := range n.Wires {
			n.Wires[j].W = numbers[w.A] * numbers[w.B]
		}
		for _, number := range numbers {
			sum += number
		}
		var want []impl.Ratio
		for _, number := range numbers {
			want = append(want, lowestTerms(number*sum, n.Scale))
		}
		m, _ := impl.ResponseOf(n)
		if got, ok := impl.StarWeights(m); !ok || !slices.Equal(got, want) || !impl.IsStarMatrix(m) {
			t.Fatalf("StarWeights(%v) = %v, %v, not %v", m, got, ok, want)
		}
	}
}

func TestResponsesThatAreStars(t *testing.T) {
	stars, others := 0, 0
	for n := range seriesNets() {
		m, _ := impl.ResponseOf(n)
		if checkReckoned(t, m) {
			stars++
		} else {
			others++
		}
	}
	if min(stars, others) < 1000 {
		t.Errorf("%d responses are those of stars, and %d are not", stars, others)
	}
}

// The functions that replace a part of a network, with arguments that suit many
// of them.
func starCalls() []netCall {
	calls := []netCall{{"MeshAll", impl.MeshAll}}
	for v := range impl.MaxNodes {
		calls = append(calls, netCall{"StarMesh", func(n impl.Net) (impl.Net, bool) { return impl.StarMesh(n, v) }})
	}
	for _, c := range [][3]int{{0, 1, 2}, {0, 1, 3}, {0, 2, 3}, {1, 2, 3}, {2, 3, 4}, {1, 0, 2}} {
		calls = append(calls, netCall{"TriangleStar", func(n impl.Net) (impl.Net, bool) { return impl.TriangleStar(n, c[0], c[1], c[2]) }})
	}
	return calls
}

func TestStarsKeepTheirArguments(t *testing.T) {
	nets := append(goodNets(), badNets()...)
	nets = append(nets, starOf(1, 3, 3, 3), starOf(30, 10, 20, 30, 40), withEnds(sameWeights(4, 2), 4), withEnds(sameWeights(4, 2), 1), withEnds(sameWeights(5, 2), 3))
	for _, n := range nets {
		for _, c := range starCalls() {
			checkKept(t, n, c)
		}
	}
}

// A result must not depend on the order in which a map is gone through.
func TestStarResultsRepeat(t *testing.T) {
	for _, n := range []impl.Net{completeNet(4, 2, 60), withEnds(sameWeights(4, 2), 1), withEnds(sameWeights(5, 8), 1)} {
		for _, c := range starCalls() {
			first, ok := c.call(n)
			for range 100 {
				if got, same := c.call(n); same != ok || !equalNets(got, first) {
					t.Fatalf("%s is once %v and once %v", c.label, first, got)
				}
			}
		}
	}
}

func TestStarMatricesAreKept(t *testing.T) {
	matrices := [][][]impl.Ratio{nil, {nil}, {ratiosOf(0, 1), nil}, ratioRows(1, 2, 4), starMatrix(1, 1, 1, 1, 1, 1, 1), starMatrix(7, 1, 2, 3), starMatrix(7, 1, 2, 3, 4), starMatrix(7, 5, 4, 3, 2, 1), starMatrix(1000001, 1, 1, 1)}
	for _, c := range responseCases() {
		matrices = append(matrices, c.want)
	}
	for _, plain := range matrices {
		m := ratioRowsWithSpare(plain)
		before := wholeRatioText(m)
		is := impl.IsStarMatrix(m)
		first, ok := impl.StarWeights(m)
		second, _ := impl.StarWeights(m)
		rest := slices.Clone(second)
		first = first[:cap(first)]
		for i := range first {
			first[i] = ratio(77, 78)
		}
		if wholeRatioText(m) != before || !slices.Equal(second, rest) {
			t.Errorf("%s is changed to %s, or a result shares memory", before, wholeRatioText(m))
		}
		if third, same := impl.StarWeights(plain); same != ok || !slices.Equal(third, rest) || impl.IsStarMatrix(plain) != is {
			t.Errorf("the star of %v is not always the same", plain)
		}
	}
}
