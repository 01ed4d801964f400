package tests

import (
	"iter"
	"math"
	"slices"
	"testing"

	"loop.example/g00859/impl"
)

// netOf makes a network from its numbers and A, B and W of each wire.
func netOf(nodes int, ends int, scale int, wires ...int) impl.Net {
	n := impl.Net{Nodes: nodes, Ends: ends, Scale: scale}
	for i := 0; i < len(wires); i += 3 {
		n.Wires = append(n.Wires, impl.Wire{A: wires[i], B: wires[i+1], W: wires[i+2]})
	}
	return n
}

func equalNets(a impl.Net, b impl.Net) bool {
	if a.Nodes != b.Nodes || a.Ends != b.Ends || a.Scale != b.Scale || len(a.Wires) != len(b.Wires) {
		return false
	}
	for i, w := range a.Wires {
		v := b.Wires[i]
		if w.A != v.A || w.B != v.B || w.W != v.W {
			return false
		}
	}
	return true
}

func copyOf(n impl.Net) impl.Net {
	n.Wires = slices.Clone(n.Wires)
	return n
}

// completeNet has all wires, with the weights 1, 2 and so on.
func completeNet(nodes int, ends int, scale int) impl.Net {
	n := impl.Net{Nodes: nodes, Ends: ends, Scale: scale}
	for a := range nodes {
		for b := a + 1; b < nodes; b++ {
			n.Wires = append(n.Wires, impl.Wire{A: a, B: b, W: len(n.Wires) + 1})
		}
	}
	return n
}

func goodNets() []impl.Net {
	return []impl.Net{
		netOf(1, 1, 1),
		{Nodes: 1, Ends: 1, Scale: 1, Wires: []impl.Wire{}},
		netOf(1, 1, 7),
		netOf(1, 1, 1000),
		netOf(2, 1, 1, 0, 1, 1),
		netOf(2, 2, 1, 0, 1, 1),
		netOf(2, 2, 1000, 0, 1, 200),
		netOf(2, 2, 999, 0, 1, 199),
		netOf(3, 1, 2, 0, 1, 3, 1, 2, 4),
		netOf(3, 2, 1, 0, 2, 1, 1, 2, 2),
		netOf(3, 3, 1, 0, 1, 1, 0, 2, 2),
		netOf(3, 3, 1, 0, 1, 1, 0, 2, 2, 1, 2, 3),
		netOf(4, 4, 10, 0, 1, 5, 1, 2, 5, 2, 3, 5),
		netOf(4, 2, 10, 0, 3, 5, 1, 2, 5, 2, 3, 5),
		netOf(4, 3, 6, 0, 3, 4, 1, 3, 10, 2, 3, 2),
		netOf(5, 5, 1, 0, 4, 1, 1, 3, 1, 2, 3, 1, 2, 4, 1),
		netOf(5, 1, 1000, 0, 1, 200, 0, 2, 200, 0, 3, 200, 0, 4, 200),
		netOf(5, 4, 30, 0, 4, 10, 1, 4, 20, 2, 4, 30, 3, 4, 40),
		completeNet(4, 2, 12),
		completeNet(5, 1, 1000),
		completeNet(5, 5, 1),
	}
}

// Each of these breaks one condition of NetOk, and some break several.
func badNets() []impl.Net {
	return []impl.Net{
		{},
		netOf(0, 1, 1), netOf(0, 0, 1), netOf(-1, 1, 1), netOf(-1, -1, 1), netOf(math.MinInt, 1, 1), netOf(math.MaxInt, 1, 1),
		netOf(6, 2, 1, 0, 1, 1, 0, 2, 1, 0, 3, 1, 0, 4, 1, 0, 5, 1),
		netOf(1, 0, 1), netOf(1, 2, 1), netOf(1, -1, 1), netOf(1, math.MaxInt, 1), netOf(1, math.MinInt, 1),
		netOf(2, 0, 1, 0, 1, 1), netOf(2, 3, 1, 0, 1, 1), netOf(2, -2, 1, 0, 1, 1), netOf(5, 6, 1, 0, 1, 1, 0, 2, 1, 0, 3, 1, 0, 4, 1),
		netOf(1, 1, 0), netOf(1, 1, -1), netOf(1, 1, 1001), netOf(1, 1, math.MaxInt), netOf(1, 1, math.MinInt),
		netOf(2, 2, 0, 0, 1, 1), netOf(2, 2, 1001, 0, 1, 1), netOf(2, 2, -5, 0, 1, 1),
		netOf(2, 2, 1, 0, 1, 0), netOf(2, 2, 1, 0, 1, -1), netOf(2, 2, 1, 0, 1, 201), netOf(2, 2, 1, 0, 1, math.MaxInt), netOf(2, 2, 1, 0, 1, math.MinInt),
		netOf(3, 3, 1, 0, 1, 1, 0, 2, 0, 1, 2, 1), netOf(3, 3, 1, 0, 1, 1, 0, 2, 1, 1, 2, 201),
		netOf(2, 2, 1, 1, 0, 1), netOf(2, 2, 1, 0, 0, 1), netOf(2, 2, 1, 1, 1, 1), netOf(1, 1, 1, 0, 0, 1),
		netOf(2, 2, 1, 0, 2, 1), netOf(2, 2, 1, -1, 1, 1), netOf(2, 2, 1, -1, 0, 1), netOf(2, 2, 1, 5, 6, 1), netOf(1, 1, 1, 0, 1, 1),
		netOf(2, 2, 1, math.MinInt, math.MaxInt, 1), netOf(2, 2, 1, 0, math.MaxInt, 1), netOf(2, 2, 1, math.MinInt, 1, 1),
		netOf(2, 2, 1, 0, 1, 1, 0, 2, 1), netOf(2, 2, 1, -1, 0, 1, 0, 1, 1), netOf(3, 3, 1, 0, 1, 1, 0, 2, 1, 1, 1, 1),
		netOf(3, 3, 1, 0, 1, 1, 0, 2, 1, 2, 1, 1), netOf(3, 3, 1, 0, 0, 1, 0, 1, 1, 0, 2, 1),
		netOf(2, 2, 1, 0, 1, 1, 0, 1, 1), netOf(2, 2, 1, 0, 1, 1, 0, 1, 2), netOf(3, 3, 1, 0, 1, 1, 0, 2, 1, 0, 2, 1),
		netOf(3, 3, 1, 0, 2, 1, 0, 1, 1), netOf(3, 3, 1, 1, 2, 1, 0, 1, 1), netOf(3, 3, 1, 0, 1, 1, 1, 2, 1, 0, 2, 1), netOf(3, 3, 1, 1, 2, 1, 0, 2, 2, 0, 1, 3),
		netOf(2, 1, 1), netOf(2, 2, 1), netOf(3, 2, 1, 0, 1, 1), netOf(3, 2, 1, 1, 2, 1), netOf(3, 3, 1, 0, 2, 1), netOf(5, 2, 1),
		netOf(4, 2, 1, 0, 1, 1, 2, 3, 1), netOf(4, 2, 1, 1, 2, 1, 1, 3, 1, 2, 3, 1), netOf(5, 2, 1, 0, 1, 1, 0, 2, 1, 1, 2, 1, 3, 4, 1),
		{Nodes: 2, Ends: 2, Scale: 1, Wires: make([]impl.Wire, 1000)},
	}
}

// A table of weights is the other way to hold a network: it has no order of
// wires and no place for a second wire.
type weightTable [impl.MaxNodes][impl.MaxNodes]int

func tableOf(n impl.Net) weightTable {
	var table weightTable
	for _, w := range n.Wires {
		table[w.A][w.B], table[w.B][w.A] = w.W, w.W
	}
	return table
}

func (table weightTable) net(nodes int, ends int, scale int) impl.Net {
	n := impl.Net{Nodes: nodes, Ends: ends, Scale: scale}
	for a := range nodes {
		for b := a + 1; b < nodes; b++ {
			if table[a][b] != 0 {
				n.Wires = append(n.Wires, impl.Wire{A: a, B: b, W: table[a][b]})
			}
		}
	}
	return n
}

// isValidNet is for networks whose wires are in order. Each wire merges two
// pieces, until all nodes are in one.
func isValidNet(n impl.Net) bool {
	piece := []int{0, 1, 2, 3, 4}[:n.Nodes]
	for _, w := range n.Wires {
		if w.W < 1 || w.W > 200 {
			return false
		}
		from, to := piece[w.A], piece[w.B]
		for v := range piece {
			if piece[v] == from {
				piece[v] = to
			}
		}
	}
	return len(slices.Compact(piece)) == 1
}

// allNets gives a network for each set of wires between up to MaxNodes nodes,
// with weights, terminals and scales that go through their ranges, also those
// in which a node cannot be reached.
func allNets() iter.Seq[impl.Net] {
	weights := []int{1, 200, 60, 140, 3, 197, 100, 12, 101, 99, 30}
	return func(yield func(impl.Net) bool) {
		for nodes := 1; nodes <= impl.MaxNodes; nodes++ {
			for set := range 1 << (nodes * (nodes - 1) / 2) {
				full := completeNet(nodes, set%nodes+1, set*37%1000+1)
				n := full
				n.Wires = nil
				for i, w := range full.Wires {
					if set>>i&1 == 1 {
						w.W = weights[(set+i)%len(weights)]
						n.Wires = append(n.Wires, w)
					}
				}
				if !yield(n) {
					return
				}
			}
		}
	}
}

func TestNetLimits(t *testing.T) {
	if impl.MaxNodes != 5 || impl.MaxWeight != 200 || impl.MaxScale != 1000 {
		t.Errorf("MaxNodes is %d, MaxWeight is %d and MaxScale is %d", impl.MaxNodes, impl.MaxWeight, impl.MaxScale)
	}
}

func TestNetOk(t *testing.T) {
	for _, n := range goodNets() {
		if !impl.NetOk(n) {
			t.Errorf("NetOk(%v) is false", n)
		}
	}
	for _, n := range badNets() {
		if impl.NetOk(n) {
			t.Errorf("NetOk(%.400v) is true", n)
		}
	}
}

func TestNetOkNumbers(t *testing.T) {
	edges := []int{math.MinInt, -1, 0, 1, 2, 3, 4, 5, 6, 7, 200, 201, 999, 1000, 1001, math.MaxInt}
	for nodes := 1; nodes <= 5; nodes++ {
		for _, ends := range edges {
			for _, scale := range edges {
				n := completeNet(nodes, ends, scale)
				want := ends >= 1 && ends <= nodes && scale >= 1 && scale <= 1000
				if impl.NetOk(n) != want {
					t.Errorf("NetOk(%v) is %v", n, !want)
				}
			}
		}
	}
	for _, weight := range edges {
		for i := range 6 {
			n := completeNet(4, 2, 1)
			n.Wires[i].W = weight
			if want := weight >= 1 && weight <= 200; impl.NetOk(n) != want {
				t.Errorf("NetOk(%v) is %v", n, !want)
			}
		}
	}
	for _, nodes := range edges {
		n := completeNet(4, 1, 1)
		n.Nodes = nodes
		if impl.NetOk(n) != (nodes == 4) {
			t.Errorf("NetOk(%v) is %v", n, nodes != 4)
		}
	}
}

func TestNetOkReached(t *testing.T) {
	for n := range allNets() {
		if want := isValidNet(n); impl.NetOk(n) != want {
			t.Errorf("NetOk(%v) is %v", n, !want)
		}
	}
}

// Of all short lists of wires with ends around the nodes of a network, those
// are valid that can be written from a table and reach all nodes.
func TestNetOkLists(t *testing.T) {
	var ends [][2]int
	for a := -1; a <= 3; a++ {
		for b := -1; b <= 3; b++ {
			ends = append(ends, [2]int{a, b})
		}
	}
	for i := range len(ends) * len(ends) * len(ends) {
		v, w, x := ends[i%len(ends)], ends[i/len(ends)%len(ends)], ends[i/len(ends)/len(ends)]
		n := netOf(3, 2, 1, v[0], v[1], 1, w[0], w[1], 2, x[0], x[1], 3)
		if want := equalNets(n, netOf(3, 2, 1, 0, 1, 1, 0, 2, 2, 1, 2, 3)); impl.NetOk(n) != want {
			t.Errorf("NetOk(%v) is %v", n, !want)
		}
		n.Wires = n.Wires[:2]
		if want := v == [2]int{0, 1} && w[1] == 2 && (w[0] == 0 || w[0] == 1) || v == [2]int{0, 2} && w == [2]int{1, 2}; impl.NetOk(n) != want {
			t.Errorf("NetOk(%v) is %v", n, !want)
		}
	}
}

func TestWeightBetween(t *testing.T) {
	n := netOf(4, 3, 1, 0, 1, 200, 0, 3, 7, 1, 2, 1)
	cases := []struct{ a, b, want int }{
		{0, 1, 200}, {0, 3, 7}, {1, 2, 1}, {0, 2, 0}, {1, 3, 0}, {2, 3, 0},
		{0, 0, 0}, {3, 3, 0}, {0, 4, 0}, {4, 5, 0}, {4, 4, 0}, {-1, 0, 0}, {-1, 1, 0}, {-1, -1, 0},
		{math.MinInt, math.MaxInt, 0}, {math.MinInt, math.MinInt, 0}, {0, math.MaxInt, 0},
	}
	for _, c := range cases {
		if got, back := impl.WeightBetween(n, c.a, c.b), impl.WeightBetween(n, c.b, c.a); got != c.want || back != c.want {
			t.Errorf("the weights between %d and %d are %d and %d", c.a, c.b, got, back)
		}
	}
	if got := impl.WeightBetween(impl.Net{}, 0, 1); got != 0 {
		t.Errorf("the weight in a network without wires is %d", got)
	}
}

// The wires of a network that is not valid are searched too.
func TestWeightBetweenNotValid(t *testing.T) {
	n := netOf(0, 9, -1, 2, 1, 5, 0, 1, 3, 0, 1, 4, 3, 3, 6, 1, 2, -7, -1, 0, 8, 8, 9, 300, 9, 8, 1, 0, 2, 0, 0, 2, 9)
	cases := []struct{ a, b, want int }{
		{1, 2, -7}, {0, 1, 3}, {3, 3, 0}, {-1, 0, 8}, {8, 9, 300}, {0, 2, 0}, {0, 3, 0}, {1, 1, 0},
	}
	for _, c := range cases {
		if got, back := impl.WeightBetween(n, c.a, c.b), impl.WeightBetween(n, c.b, c.a); got != c.want || back != c.want {
			t.Errorf("the weights between %d and %d are %d and %d", c.a, c.b, got, back)
		}
	}
	if got := impl.WeightBetween(netOf(2, 2, 1, 1, 0, 5), 0, 1); got != 0 {
		t.Errorf("a wire with its ends in the wrong order is found with the weight %d", got)
	}
}

func TestWeightAt(t *testing.T) {
	n := netOf(4, 3, 1, 0, 1, 200, 0, 3, 7, 1, 2, 1)
	cases := map[int]int{0: 207, 1: 201, 2: 1, 3: 7, 4: 0, -1: 0, math.MinInt: 0, math.MaxInt: 0}
	for v, want := range cases {
		if got := impl.WeightAt(n, v); got != want {
			t.Errorf("the weight at %d is %d", v, got)
		}
	}
	if impl.WeightAt(netOf(1, 1, 1), 0) != 0 || impl.WeightAt(impl.Net{}, 0) != 0 {
		t.Error("a node without wires has a weight")
	}
	if got := impl.WeightAt(netOf(5, 1, 1, 0, 4, 200, 1, 4, 200, 2, 4, 200, 3, 4, 200), 4); got != 800 {
		t.Errorf("the greatest weight is %d", got)
	}
}

// Each wire at a node counts once, however it is written.
func TestWeightAtNotValid(t *testing.T) {
	n := netOf(0, 9, -1, 2, 1, 5, 0, 1, 3, 0, 1, 4, 3, 3, 6, 1, 2, -7, 8, 9, 300)
	for v, want := range map[int]int{0: 7, 1: 5, 2: -2, 3: 6, 4: 0, 8: 300, 9: 300} {
		if got := impl.WeightAt(n, v); got != want {
			t.Errorf("the weight at %d is %d", v, got)
		}
	}
}

func TestWeightsOfAllNets(t *testing.T) {
	for n := range allNets() {
		table := tableOf(n)
		for a := range n.Nodes {
			sum := 0
			for b := range n.Nodes {
				sum += table[a][b]
				if got := impl.WeightBetween(n, a, b); got != table[a][b] {
					t.Errorf("the weight between %d and %d in %v is %d", a, b, n, got)
				}
			}
			if got := impl.WeightAt(n, a); got != sum {
				t.Errorf("the weight at %d in %v is %d", a, n, got)
			}
		}
	}
}

func TestPutWire(t *testing.T) {
	triangle := netOf(3, 3, 4, 0, 1, 1, 0, 2, 2, 1, 2, 3)
	path := netOf(3, 2, 4, 0, 2, 1, 1, 2, 2)
	one := netOf(1, 1, 1)
	two := netOf(2, 2, 1, 0, 1, 5)
	cases := []struct {
		n       impl.Net
		a, b, w int
		want    impl.Net
	}{
		{triangle, 0, 1, 7, netOf(3, 3, 4, 0, 1, 7, 0, 2, 2, 1, 2, 3)},
		{triangle, 1, 0, 7, netOf(3, 3, 4, 0, 1, 7, 0, 2, 2, 1, 2, 3)},
		{triangle, 2, 1, 200, netOf(3, 3, 4, 0, 1, 1, 0, 2, 2, 1, 2, 200)},
		{triangle, 0, 2, 2, triangle},
		{triangle, 0, 2, 1, netOf(3, 3, 4, 0, 1, 1, 0, 2, 1, 1, 2, 3)},
		{triangle, 0, 1, 0, netOf(3, 3, 4, 0, 2, 2, 1, 2, 3)},
		{triangle, 2, 1, 0, netOf(3, 3, 4, 0, 1, 1, 0, 2, 2)},
		{triangle, 2, 0, 201, impl.Net{}},
		{triangle, 0, 2, -1, impl.Net{}},
		{triangle, 0, 2, math.MaxInt, impl.Net{}},
		{triangle, 0, 2, math.MinInt, impl.Net{}},
		{triangle, 1, 1, 3, impl.Net{}},
		{triangle, 1, 1, 0, impl.Net{}},
		{triangle, 0, 3, 3, impl.Net{}},
		{triangle, 3, 0, 0, impl.Net{}},
		{triangle, -1, 0, 3, impl.Net{}},
		{triangle, 0, -1, 0, impl.Net{}},
		{triangle, 3, 4, 0, impl.Net{}},
		{triangle, math.MinInt, math.MaxInt, 0, impl.Net{}},
		{path, 0, 1, 9, netOf(3, 2, 4, 0, 1, 9, 0, 2, 1, 1, 2, 2)},
		{path, 1, 0, 0, path},
		{path, 0, 2, 0, impl.Net{}},
		{path, 2, 1, 0, impl.Net{}},
		{path, 2, 1, 1, netOf(3, 2, 4, 0, 2, 1, 1, 2, 1)},
		{one, 0, 0, 0, impl.Net{}},
		{one, 0, 0, 1, impl.Net{}},
		{one, 0, 1, 0, impl.Net{}},
		{one, 0, 1, 1, impl.Net{}},
		{two, 0, 1, 0, impl.Net{}},
		{two, 1, 0, 200, netOf(2, 2, 1, 0, 1, 200)},
		{two, 1, 0, 201, impl.Net{}},
		{netOf(2, 2, 1), 0, 1, 5, impl.Net{}},
		{netOf(2, 2, 1, 0, 1, 300), 0, 1, 5, impl.Net{}},
		{netOf(2, 2, 1, 0, 1, 5, 0, 1, 6), 0, 1, 5, impl.Net{}},
		{netOf(2, 2, 1, 1, 0, 6), 0, 1, 5, impl.Net{}},
	}
	for _, c := range cases {
		got, ok := impl.PutWire(c.n, c.a, c.b, c.w)
		if ok != (c.want.Nodes > 0) || !equalNets(got, c.want) {
			t.Errorf("PutWire(%v, %d, %d, %d) = %v, %v", c.n, c.a, c.b, c.w, got, ok)
		}
	}
}

func TestPutWireInAllNets(t *testing.T) {
	for n := range allNets() {
		for a := -1; a <= impl.MaxNodes; a++ {
			for b := -1; b <= impl.MaxNodes; b++ {
				for _, w := range []int{-1, 0, 1, 99, 200, 201} {
					want, wanted := netWithWire(n, a, b, w)
					got, ok := impl.PutWire(n, a, b, w)
					if ok != wanted || !equalNets(got, want) {
						t.Fatalf("PutWire(%v, %d, %d, %d) = %v, %v", n, a, b, w, got, ok)
					}
				}
			}
		}
	}
}

func netWithWire(n impl.Net, a int, b int, w int) (impl.Net, bool) {
	if !isValidNet(n) || a < 0 || b < 0 || a >= n.Nodes || b >= n.Nodes || a == b || w < 0 || w > 200 {
		return impl.Net{}, false
	}
	table := tableOf(n)
	table[a][b], table[b][a] = w, w
	return ifValid(table.net(n.Nodes, n.Ends, n.Scale))
}

func ifValid(n impl.Net) (impl.Net, bool) {
	if !isValidNet(n) {
		return impl.Net{}, false
	}
	return n, true
}

func TestCanonNet(t *testing.T) {
	cases := []struct{ n, want impl.Net }{
		{netOf(1, 1, 1), netOf(1, 1, 1)},
		{netOf(1, 1, 7), netOf(1, 1, 1)},
		{netOf(1, 1, 1000), netOf(1, 1, 1)},
		{impl.Net{Nodes: 1, Ends: 1, Scale: 6, Wires: []impl.Wire{}}, netOf(1, 1, 1)},
		{netOf(2, 2, 6, 0, 1, 4), netOf(2, 2, 3, 0, 1, 2)},
		{netOf(2, 1, 1, 0, 1, 200), netOf(2, 1, 1, 0, 1, 200)},
		{netOf(2, 2, 1000, 0, 1, 200), netOf(2, 2, 5, 0, 1, 1)},
		{netOf(2, 2, 200, 0, 1, 200), netOf(2, 2, 1, 0, 1, 1)},
		{netOf(2, 2, 50, 0, 1, 200), netOf(2, 2, 1, 0, 1, 4)},
		{netOf(3, 2, 12, 0, 1, 6, 0, 2, 18, 1, 2, 30), netOf(3, 2, 2, 0, 1, 1, 0, 2, 3, 1, 2, 5)},
		{netOf(3, 2, 12, 0, 1, 6, 0, 2, 18, 1, 2, 31), netOf(3, 2, 12, 0, 1, 6, 0, 2, 18, 1, 2, 31)},
		{netOf(3, 3, 30, 0, 1, 6, 1, 2, 10), netOf(3, 3, 15, 0, 1, 3, 1, 2, 5)},
		{netOf(3, 3, 30, 0, 1, 15, 1, 2, 10), netOf(3, 3, 6, 0, 1, 3, 1, 2, 2)},
		{netOf(3, 3, 7, 0, 1, 14, 1, 2, 21), netOf(3, 3, 1, 0, 1, 2, 1, 2, 3)},
		{netOf(3, 3, 5, 0, 1, 14, 1, 2, 21), netOf(3, 3, 5, 0, 1, 14, 1, 2, 21)},
		{netOf(5, 1, 1000, 0, 1, 200, 0, 2, 200, 0, 3, 200, 0, 4, 200), netOf(5, 1, 5, 0, 1, 1, 0, 2, 1, 0, 3, 1, 0, 4, 1)},
	}
	for _, c := range cases {
		if got, ok := impl.CanonNet(c.n); !ok || !equalNets(got, c.want) {
			t.Errorf("CanonNet(%v) = %v, %v", c.n, got, ok)
		}
	}
}

// A network whose numbers have no common divisor comes from all its multiples
// that are valid.
func TestCanonNetOfMultiples(t *testing.T) {
	for _, n := range goodNets() {
		lowest, _ := impl.CanonNet(n)
		for factor := 1; factor <= 1000; factor++ {
			multiple := copyOf(lowest)
			multiple.Scale *= factor
			fits := multiple.Scale <= 1000
			for i := range multiple.Wires {
				multiple.Wires[i].W *= factor
				fits = fits && multiple.Wires[i].W <= 200
			}
			got, ok := impl.CanonNet(multiple)
			if ok != fits || fits && !equalNets(got, lowest) || !fits && !equalNets(got, impl.Net{}) {
				t.Errorf("CanonNet(%v) = %v, %v", multiple, got, ok)
			}
		}
	}
}

func TestCanonNetOfAllNets(t *testing.T) {
	for n := range allNets() {
		for _, scale := range []int{1, 2, 60, 420, 600, 840, 1000} {
			n.Scale = scale
			want, wanted := ifValid(n)
			if wanted {
				want = dividedByHand(n)
			}
			if got, ok := impl.CanonNet(n); ok != wanted || !equalNets(got, want) {
				t.Fatalf("CanonNet(%v) = %v, %v", n, got, ok)
			}
		}
	}
}

func dividedByHand(n impl.Net) impl.Net {
	for divisor := n.Scale; ; divisor-- {
		divides := n.Scale%divisor == 0
		for _, w := range n.Wires {
			divides = divides && w.W%divisor == 0
		}
		if divides {
			n = copyOf(n)
			n.Scale /= divisor
			for i := range n.Wires {
				n.Wires[i].W /= divisor
			}
			return n
		}
	}
}

func TestSameNet(t *testing.T) {
	for i, n := range goodNets() {
		for j, other := range goodNets() {
			same := i == j || i < 2 && j < 2 // the first two have nil and no wires
			if impl.SameNet(n, other) != same {
				t.Errorf("SameNet(%v, %v) is %v", n, other, !same)
			}
		}
	}
	n := netOf(3, 2, 4, 0, 1, 1, 0, 2, 2, 1, 2, 3)
	others := []impl.Net{
		netOf(4, 2, 4, 0, 1, 1, 0, 2, 2, 1, 2, 3), netOf(3, 3, 4, 0, 1, 1, 0, 2, 2, 1, 2, 3), netOf(3, 2, 5, 0, 1, 1, 0, 2, 2, 1, 2, 3),
		netOf(3, 2, 4, 0, 1, 1, 0, 2, 2), netOf(3, 2, 4, 0, 2, 2, 1, 2, 3), netOf(3, 2, 4), netOf(3, 2, 8, 0, 1, 2, 0, 2, 4, 1, 2, 6),
		netOf(3, 2, 4, 0, 1, 9, 0, 2, 2, 1, 2, 3), netOf(3, 2, 4, 0, 1, 1, 0, 2, 9, 1, 2, 3), netOf(3, 2, 4, 0, 1, 1, 0, 2, 2, 1, 2, 9),
		netOf(3, 2, 4, 0, 1, 1, 0, 2, 2, 0, 2, 3), netOf(3, 2, 4, 0, 1, 1, 0, 2, 2, 1, 3, 3), netOf(3, 2, 4, 1, 0, 1, 0, 2, 2, 1, 2, 3),
		netOf(3, 2, 4, 0, 2, 2, 0, 1, 1, 1, 2, 3), netOf(3, 2, 4, 0, 1, 1, 0, 2, 2, 1, 2, 3, 1, 2, 3), {},
	}
	for _, other := range others {
		if impl.SameNet(n, other) || impl.SameNet(other, n) {
			t.Errorf("%v and %v are the same", n, other)
		}
	}
}

// Networks that are not valid are compared in the same way.
func TestSameNetNotValid(t *testing.T) {
	for i, n := range badNets() {
		for j, other := range badNets() {
			if same := i == j; impl.SameNet(n, other) != same {
				t.Errorf("SameNet(%.400v, %.400v) is %v", n, other, !same)
			}
		}
		for _, other := range goodNets() {
			if impl.SameNet(n, other) || impl.SameNet(other, n) {
				t.Errorf("%.400v and %v are the same", n, other)
			}
		}
	}
}

func TestJoinNodes(t *testing.T) {
	triangle := netOf(3, 3, 4, 0, 1, 1, 0, 2, 2, 1, 2, 3)
	path := netOf(4, 2, 1, 0, 2, 3, 1, 3, 4, 2, 3, 5)
	cases := []struct {
		n    impl.Net
		a, b int
		want impl.Net
	}{
		{triangle, 0, 1, netOf(2, 2, 4, 0, 1, 5)},
		{triangle, 0, 2, netOf(2, 2, 4, 0, 1, 4)},
		{triangle, 1, 2, netOf(2, 2, 4, 0, 1, 3)},
		{triangle, 1, 0, impl.Net{}},
		{triangle, 1, 1, impl.Net{}},
		{triangle, 0, 0, impl.Net{}},
		{triangle, -1, 0, impl.Net{}},
		{triangle, 2, 3, impl.Net{}},
		{triangle, 3, 4, impl.Net{}},
		{triangle, math.MinInt, 0, impl.Net{}},
		{triangle, 0, math.MaxInt, impl.Net{}},
		{path, 0, 1, netOf(3, 1, 1, 0, 1, 3, 0, 2, 4, 1, 2, 5)},
		{path, 0, 2, netOf(3, 2, 1, 0, 2, 5, 1, 2, 4)},
		{path, 0, 3, netOf(3, 2, 1, 0, 1, 4, 0, 2, 8)},
		{path, 1, 2, netOf(3, 2, 1, 0, 1, 3, 1, 2, 9)},
		{path, 1, 3, netOf(3, 2, 1, 0, 2, 3, 1, 2, 5)},
		{path, 2, 3, netOf(3, 2, 1, 0, 2, 3, 1, 2, 4)},
		{netOf(1, 1, 1), 0, 1, impl.Net{}},
		{netOf(1, 1, 1), 0, 0, impl.Net{}},
		{netOf(2, 1, 5, 0, 1, 200), 0, 1, netOf(1, 1, 5)},
		{netOf(2, 2, 5, 0, 1, 10), 0, 1, netOf(1, 1, 5)},
		{netOf(3, 3, 6, 0, 1, 4, 1, 2, 3), 0, 2, netOf(2, 2, 6, 0, 1, 7)},
		{netOf(3, 3, 4, 0, 1, 2, 1, 2, 4), 1, 2, netOf(2, 2, 4, 0, 1, 2)},
		{netOf(3, 2, 1, 0, 2, 199, 1, 2, 1), 0, 1, netOf(2, 1, 1, 0, 1, 200)},
		{netOf(3, 2, 1, 0, 2, 200, 1, 2, 1), 0, 1, impl.Net{}},
		{netOf(3, 2, 1, 0, 2, 200, 1, 2, 1), 0, 2, netOf(2, 2, 1, 0, 1, 1)},
		{netOf(3, 3, 1, 0, 1, 200, 0, 2, 200, 1, 2, 200), 1, 2, impl.Net{}},
		{completeNet(5, 4, 9), 1, 3, netOf(4, 3, 9, 0, 1, 4, 0, 2, 2, 0, 3, 4, 1, 2, 13, 1, 3, 17, 2, 3, 9)},
		{completeNet(5, 3, 9), 2, 4, netOf(4, 3, 9, 0, 1, 1, 0, 2, 6, 0, 3, 3, 1, 2, 12, 1, 3, 6, 2, 3, 18)},
		{netOf(3, 3, 1, 0, 2, 1), 0, 1, impl.Net{}},
		{netOf(3, 3, 1, 0, 1, 1, 0, 2, 300), 0, 2, impl.Net{}},
		{netOf(3, 3, 1, 0, 1, 1, 1, 2, 1, 0, 2, 1), 0, 1, impl.Net{}},
	}
	for _, c := range cases {
		got, ok := impl.JoinNodes(c.n, c.a, c.b)
		if ok != (c.want.Nodes > 0) || !equalNets(got, c.want) {
			t.Errorf("JoinNodes(%v, %d, %d) = %v, %v", c.n, c.a, c.b, got, ok)
		}
	}
}

func TestJoinNodesOfAllNets(t *testing.T) {
	for n := range allNets() {
		for ends := 1; ends <= n.Nodes; ends++ {
			n.Ends = ends
			for a := -1; a <= impl.MaxNodes; a++ {
				for b := -1; b <= impl.MaxNodes; b++ {
					want, wanted := joinedNet(n, a, b)
					got, ok := impl.JoinNodes(n, a, b)
					if ok != wanted || !equalNets(got, want) {
						t.Fatalf("JoinNodes(%v, %d, %d) = %v, %v", n, a, b, got, ok)
					}
				}
			}
		}
	}
}

// The row and the column of b are added to those of a and taken out.
func joinedNet(n impl.Net, a int, b int) (impl.Net, bool) {
	if !isValidNet(n) || a < 0 || b >= n.Nodes || a >= b {
		return impl.Net{}, false
	}
	table := tableOf(n)
	for v := range n.Nodes {
		table[a][v] += table[b][v]
		table[v][a] += table[v][b]
	}
	table[a][a] = 0
	var smaller weightTable
	for v := range n.Nodes - 1 {
		for w := range n.Nodes - 1 {
			smaller[v][w] = table[skipping(v, b)][skipping(w, b)]
		}
	}
	ends := 0
	for v := range n.Ends {
		if v != b {
			ends++
		}
	}
	return ifValid(smaller.net(n.Nodes-1, ends, n.Scale))
}

func skipping(v int, left int) int {
	if v >= left {
		return v + 1
	}
	return v
}

func TestSwapNodes(t *testing.T) {
	path := netOf(4, 2, 3, 0, 2, 3, 1, 3, 4, 2, 3, 5)
	cases := []struct {
		n    impl.Net
		a, b int
		want impl.Net
	}{
		{path, 0, 1, netOf(4, 2, 3, 0, 3, 4, 1, 2, 3, 2, 3, 5)},
		{path, 0, 2, netOf(4, 2, 3, 0, 2, 3, 0, 3, 5, 1, 3, 4)},
		{path, 0, 3, netOf(4, 2, 3, 0, 1, 4, 0, 2, 5, 2, 3, 3)},
		{path, 1, 2, netOf(4, 2, 3, 0, 1, 3, 1, 3, 5, 2, 3, 4)},
		{path, 1, 3, netOf(4, 2, 3, 0, 2, 3, 1, 2, 5, 1, 3, 4)},
		{path, 2, 3, netOf(4, 2, 3, 0, 3, 3, 1, 2, 4, 2, 3, 5)},
		{path, 0, 0, path},
		{path, 3, 3, path},
		{path, 0, 4, impl.Net{}},
		{path, 4, 0, impl.Net{}},
		{path, 4, 4, impl.Net{}},
		{path, -1, 0, impl.Net{}},
		{path, 0, -1, impl.Net{}},
		{path, -1, -1, impl.Net{}},
		{path, math.MinInt, math.MaxInt, impl.Net{}},
		{path, 0, math.MaxInt, impl.Net{}},
		{netOf(1, 1, 8), 0, 0, netOf(1, 1, 8)},
		{netOf(1, 1, 8), 0, 1, impl.Net{}},
		{netOf(2, 1, 6, 0, 1, 4), 0, 1, netOf(2, 1, 6, 0, 1, 4)},
		{netOf(2, 1, 6, 0, 1, 4), 1, 2, impl.Net{}},
		{netOf(3, 3, 1, 0, 1, 1, 0, 2, 2, 1, 2, 3), 0, 2, netOf(3, 3, 1, 0, 1, 3, 0, 2, 2, 1, 2, 1)},
		{netOf(3, 3, 1, 0, 2, 1), 0, 1, impl.Net{}},
		{netOf(3, 3, 1, 0, 2, 1), 1, 1, impl.Net{}},
		{netOf(2, 2, 1, 1, 0, 1), 0, 1, impl.Net{}},
		{netOf(3, 3, 1, 0, 2, 1, 0, 1, 1), 0, 1, impl.Net{}},
	}
	for _, c := range cases {
		got, ok := impl.SwapNodes(c.n, c.a, c.b)
		if ok != (c.want.Nodes > 0) || !equalNets(got, c.want) {
			t.Errorf("SwapNodes(%v, %d, %d) = %v, %v", c.n, c.a, c.b, got, ok)
		}
		if back, _ := impl.SwapNodes(c.n, c.b, c.a); !equalNets(got, back) {
			t.Errorf("SwapNodes(%v, %d, %d) = %v", c.n, c.b, c.a, back)
		}
	}
}

func TestSwapNodesOfAllNets(t *testing.T) {
	for n := range allNets() {
		for a := -1; a <= impl.MaxNodes; a++ {
			for b := -1; b <= impl.MaxNodes; b++ {
				want, wanted := swappedNet(n, a, b)
				got, ok := impl.SwapNodes(n, a, b)
				if ok != wanted || !equalNets(got, want) {
					t.Fatalf("SwapNodes(%v, %d, %d) = %v, %v", n, a, b, got, ok)
				}
				if back, ok := impl.SwapNodes(got, a, b); ok != wanted || wanted && !equalNets(back, n) {
					t.Fatalf("exchanged twice, %v is %v", n, back)
				}
			}
		}
	}
}

func swappedNet(n impl.Net, a int, b int) (impl.Net, bool) {
	if !isValidNet(n) || a < 0 || b < 0 || a >= n.Nodes || b >= n.Nodes {
		return impl.Net{}, false
	}
	table := tableOf(n)
	table[a], table[b] = table[b], table[a]
	for v := range table {
		table[v][a], table[v][b] = table[v][b], table[v][a]
	}
	return table.net(n.Nodes, n.Ends, n.Scale), true
}

type netCall struct {
	label string
	call  func(impl.Net) (impl.Net, bool)
}

// The functions that make a network of a network, with arguments that suit
// every valid one with two nodes or more.
func netCalls() []netCall {
	return []netCall{
		{"PutWire", func(n impl.Net) (impl.Net, bool) { return impl.PutWire(n, 1, 0, 9) }},
		{"PutWire without a wire", func(n impl.Net) (impl.Net, bool) { return impl.PutWire(n, 0, 1, 0) }},
		{"CanonNet", impl.CanonNet},
		{"JoinNodes", func(n impl.Net) (impl.Net, bool) { return impl.JoinNodes(n, 0, 1) }},
		{"SwapNodes", func(n impl.Net) (impl.Net, bool) { return impl.SwapNodes(n, 0, 1) }},
		{"SwapNodes of equal nodes", func(n impl.Net) (impl.Net, bool) { return impl.SwapNodes(n, 0, 0) }},
	}
}

func TestNetsNotValid(t *testing.T) {
	for _, n := range badNets() {
		for _, c := range netCalls() {
			if got, ok := c.call(n); ok || !equalNets(got, impl.Net{}) {
				t.Errorf("%s of %.400v is %v, %v", c.label, n, got, ok)
			}
		}
	}
}

func TestNetsStayAsTheyAre(t *testing.T) {
	for _, n := range append(goodNets(), badNets()...) {
		for _, c := range netCalls() {
			checkKept(t, n, c)
		}
		spare := withSpare(n)
		before := slices.Clone(spare.Wires[:cap(spare.Wires)])
		impl.NetOk(spare)
		impl.SameNet(spare, spare)
		impl.WeightBetween(spare, 1, 0)
		impl.WeightAt(spare, 0)
		if !slices.Equal(spare.Wires[:cap(spare.Wires)], before) {
			t.Errorf("%.400v is changed by a question", n)
		}
	}
}

// withSpare puts wires into the capacity behind those of a network.
func withSpare(n impl.Net) impl.Net {
	wires := slices.Concat(n.Wires, []impl.Wire{{A: 0, B: 1, W: 1}, {A: -5, B: -6, W: -7}, {A: 0, B: 1, W: 1}})
	n.Wires = wires[:len(n.Wires)]
	return n
}

func checkKept(t *testing.T, n impl.Net, c netCall) {
	spare := withSpare(n)
	all := spare.Wires[:cap(spare.Wires)]
	before := slices.Clone(all)
	result, ok := c.call(spare)
	again, _ := c.call(spare)
	kept := copyOf(again)
	if !slices.Equal(all, before) {
		t.Errorf("%s changes %.400v", c.label, n)
	}
	for i := range result.Wires[:cap(result.Wires)] {
		result.Wires[:cap(result.Wires)][i] = impl.Wire{A: 77, B: 88, W: 99}
	}
	if !slices.Equal(all, before) || !equalNets(again, kept) {
		t.Errorf("the result of %s of %.400v shares memory with its argument or another result", c.label, n)
	}
	if third, same := c.call(spare); same != ok || !equalNets(third, kept) {
		t.Errorf("%s of %.400v is not always the same", c.label, n)
	}
}

// A result must not depend on the order in which a map is gone through.
func TestNetResultsRepeat(t *testing.T) {
	n := completeNet(5, 3, 60)
	for _, c := range netCalls() {
		first, _ := c.call(n)
		for range 200 {
			if got, ok := c.call(n); !ok || !equalNets(got, first) {
				t.Fatalf("%s is once %v and once %v", c.label, first, got)
			}
		}
	}
}
