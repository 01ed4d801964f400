package tests

import (
	"iter"
	"math"
	"math/big"
	"runtime"
	"slices"
	"sync"
	"testing"

	"loop.example/g00859/impl"
)

func weightsIn(n impl.Net) []int {
	var weights []int
	for _, w := range n.Wires {
		weights = append(weights, w.W)
	}
	return weights
}

func netWithWeights(n impl.Net, weights []int) impl.Net {
	n = copyOf(n)
	for i, weight := range weights {
		n.Wires[i].W = weight
	}
	return n
}

// rangeNets gives the valid ones of allNets, and the same wires also with small
// weights, of which several are often the same, and with the two greatest ones.
func rangeNets() iter.Seq[impl.Net] {
	return func(yield func(impl.Net) bool) {
		for n := range allNets() {
			small, great := withScale(copyOf(n), n.Scale%3+1), copyOf(n)
			for i, w := range n.Wires {
				small.Wires[i].W = w.W%3 + 1
				great.Wires[i].W = w.W%2 + 199
			}
			for _, varied := range []impl.Net{n, small, great} {
				if isValidNet(varied) && !yield(varied) {
					return
				}
			}
		}
	}
}

// resistancesByHand gives the resistances between all nodes of a valid network,
// from its forests and trees listed one by one.
func resistancesByHand(n impl.Net) [][]impl.Ratio {
	trees := 0
	for f := range forestsOf(n, 1) {
		trees += f.product
	}
	forests := slices.Collect(forestsOf(n, 2))
	var rows [][]impl.Ratio
	for a := range n.Nodes {
		var row []impl.Ratio
		for b := range n.Nodes {
			row = append(row, lowestTerms(n.Scale*separating(forests, a, b), trees))
		}
		rows = append(rows, row)
	}
	return rows
}

// The resistances of a network, and for each wire those with its weight greater
// by 1: none if that is no weight.
type effects struct {
	before [][]impl.Ratio
	after  [][][]impl.Ratio
}

func effectsByHand(n impl.Net) effects {
	e := effects{before: resistancesByHand(n), after: make([][][]impl.Ratio, len(n.Wires))}
	for wire, w := range n.Wires {
		if w.W < 200 {
			raised := copyOf(n)
			raised.Wires[wire].W++
			e.after[wire] = resistancesByHand(raised)
		}
	}
	return e
}

func (e effects) isSensitive(a int, b int, wire int) bool {
	return e.after[wire] != nil && e.after[wire][a][b] != e.before[a][b]
}

// most gives the first wire after which the resistance is least, and how many
// there are with the same effect.
func (e effects) most(a int, b int) (int, int) {
	most, same := -1, 0
	for wire, after := range e.after {
		if after == nil {
			continue
		}
		order := -1
		if most >= 0 {
			order = exact(after[a][b]).Cmp(exact(e.after[most][a][b]))
		}
		switch order {
		case -1:
			most, same = wire, 1
		case 0:
			same++
		}
	}
	return most, same
}

func checkBounds(t *testing.T, n impl.Net, low []int, high []int, want bool) {
	t.Helper()
	if impl.BoundsOk(n, low, high) != want {
		t.Errorf("BoundsOk(%.400v, %.200v, %.200v) is %v", n, low, high, !want)
	}
	if !want {
		checkNoRange(t, n, low, high, 0, 0)
		checkNoRange(t, n, low, high, 0, 1)
	}
}

func checkNoRange(t *testing.T, n impl.Net, low []int, high []int, a int, b int) {
	t.Helper()
	if least, greatest, ok := impl.ResistanceRange(n, low, high, a, b); ok || least != (impl.Ratio{}) || greatest != (impl.Ratio{}) {
		t.Errorf("ResistanceRange(%.400v, %.200v, %.200v, %d, %d) = %v, %v, %v", n, low, high, a, b, least, greatest, ok)
	}
}

func TestBoundsOk(t *testing.T) {
	one, two, series := netOf(1, 1, 7), netOf(2, 2, 1000, 0, 1, 200), seriesNet()
	cases := []struct {
		n         impl.Net
		low, high []int
		want      bool
	}{
		{one, nil, nil, true},
		{one, []int{}, nil, true},
		{one, nil, []int{}, true},
		{one, []int{1}, nil, false},
		{one, nil, []int{1}, false},
		{one, []int{1}, []int{1}, false},
		{two, []int{200}, []int{200}, true},
		{two, []int{1}, []int{200}, true},
		{two, []int{201}, []int{200}, false},
		{two, []int{201}, []int{201}, false},
		{two, []int{200}, []int{201}, false},
		{two, []int{200}, []int{199}, false},
		{two, nil, nil, false},
		{two, []int{200}, nil, false},
		{two, nil, []int{200}, false},
		{series, []int{1, 2}, []int{1, 2}, true},
		{series, []int{1, 1}, []int{1, 2}, true},
		{series, []int{1, 1}, []int{200, 200}, true},
		{series, []int{1, 2}, []int{2, 3}, true},
		{series, []int{2, 1}, []int{2, 2}, false},
		{series, []int{1, 3}, []int{1, 3}, false},
		{series, []int{0, 2}, []int{1, 2}, false},
		{series, []int{1, 0}, []int{1, 2}, false},
		{series, []int{1, 1}, []int{0, 2}, false},
		{series, []int{1, 1}, []int{1, 1}, false},
		{series, []int{1, 1}, []int{201, 2}, false},
		{series, []int{1, 1}, []int{1, 201}, false},
		{series, []int{1}, []int{1, 2}, false},
		{series, []int{1, 2}, []int{1}, false},
		{series, []int{1}, []int{1}, false},
		{series, []int{1, 2, 1}, []int{1, 2}, false},
		{series, []int{1, 2}, []int{1, 2, 1}, false},
		{series, []int{1, 2, 1}, []int{1, 2, 1}, false},
		{series, nil, nil, false},
		{series, make([]int, 1000), make([]int, 1000), false},
	}
	for _, c := range cases {
		checkBounds(t, c.n, c.low, c.high, c.want)
	}
}

// One bound after the other takes all values around its limits.
func TestBoundsOkNumbers(t *testing.T) {
	for _, n := range goodNets() {
		weights := weightsIn(n)
		checkBounds(t, n, weights, weights, true)
		for i, w := range weights {
			for _, bound := range []int{math.MinInt, math.MinInt + 1, -200, -w, -1, 0, 1, 2, w - 1, w, w + 1, 199, 200, 201, 202, 1 << 32, 1<<32 + w, math.MaxInt - 1, math.MaxInt} {
				changed := slices.Clone(weights)
				changed[i] = bound
				checkBounds(t, n, changed, weights, bound >= 1 && bound <= w)
				checkBounds(t, n, weights, changed, bound >= w && bound <= 200)
				checkBounds(t, n, changed, changed, bound == w)
			}
		}
		for length := range len(weights) + 4 {
			list := slices.Concat(weights, []int{1, 1, 1})[:length]
			checkBounds(t, n, list, weights, length == len(weights))
			checkBounds(t, n, weights, list, length == len(weights))
			checkBounds(t, n, list, list, length == len(weights))
		}
	}
}

func TestResistanceRange(t *testing.T) {
	triangle := withScale(triangleNet(), 7)
	cases := []struct {
		n               impl.Net
		low, high       []int
		a, b            int
		least, greatest impl.Ratio
	}{
		{netOf(1, 1, 1), nil, nil, 0, 0, ratio(0, 1), ratio(0, 1)},
		{netOf(1, 1, 1000), []int{}, []int{}, 0, 0, ratio(0, 1), ratio(0, 1)},
		{netOf(2, 2, 1, 0, 1, 1), []int{1}, []int{1}, 0, 1, ratio(1, 1), ratio(1, 1)},
		{netOf(2, 2, 1, 0, 1, 1), []int{1}, []int{200}, 0, 1, ratio(1, 200), ratio(1, 1)},
		{netOf(2, 2, 1, 0, 1, 1), []int{1}, []int{200}, 1, 1, ratio(0, 1), ratio(0, 1)},
		{netOf(2, 1, 1000, 0, 1, 200), []int{1}, []int{200}, 1, 0, ratio(5, 1), ratio(1000, 1)},
		{netOf(2, 1, 1000, 0, 1, 7), []int{4}, []int{8}, 1, 0, ratio(125, 1), ratio(250, 1)},
		{seriesNet(), []int{1, 1}, []int{2, 2}, 0, 1, ratio(1, 1), ratio(2, 1)},
		{seriesNet(), []int{1, 2}, []int{1, 2}, 0, 1, ratio(3, 2), ratio(3, 2)},
		{seriesNet(), []int{1, 1}, []int{1, 200}, 1, 0, ratio(201, 200), ratio(2, 1)},
		{seriesNet(), []int{1, 1}, []int{4, 200}, 0, 2, ratio(1, 4), ratio(1, 1)},
		{seriesNet(), []int{1, 1}, []int{4, 200}, 2, 1, ratio(1, 200), ratio(1, 1)},
		{seriesNet(), []int{1, 1}, []int{4, 200}, 2, 2, ratio(0, 1), ratio(0, 1)},
		{triangle, []int{1, 2, 3}, []int{1, 2, 3}, 0, 1, ratio(35, 11), ratio(35, 11)},
		{triangle, []int{1, 1, 1}, []int{1, 2, 3}, 0, 1, ratio(35, 11), ratio(14, 3)},
		{triangle, []int{1, 2, 3}, []int{3, 2, 3}, 1, 0, ratio(5, 3), ratio(35, 11)},
		{triangle, []int{1, 1, 1}, []int{200, 200, 200}, 2, 0, ratio(7, 300), ratio(14, 3)},
		{balancedNet(), []int{1, 2, 1, 2, 1}, []int{1, 2, 1, 2, 200}, 0, 1, ratio(2, 3), ratio(2, 3)},
		{balancedNet(), []int{1, 2, 1, 2, 1}, []int{1, 2, 1, 2, 199}, 2, 3, ratio(3, 601), ratio(3, 7)},
		{sameWeights(5, 200), []int{1, 1, 1, 1, 1, 1, 1, 1, 1, 1}, slices.Repeat([]int{200}, 10), 3, 1, ratio(1, 500), ratio(2, 5)},
	}
	for _, c := range cases {
		if least, greatest, ok := impl.ResistanceRange(c.n, c.low, c.high, c.a, c.b); !ok || least != c.least || greatest != c.greatest {
			t.Errorf("ResistanceRange(%v, %v, %v, %d, %d) = %v, %v, %v", c.n, c.low, c.high, c.a, c.b, least, greatest, ok)
		}
	}
}

func TestResistanceRangeNodesNotValid(t *testing.T) {
	for _, n := range goodNets() {
		weights := weightsIn(n)
		for _, bad := range []int{math.MinInt, -1 << 32, -n.Nodes, -1, n.Nodes, n.Nodes + 1, 5, 1 << 32, math.MaxInt} {
			if isNode(n, bad) {
				continue
			}
			for _, v := range []int{0, n.Nodes - 1, bad} {
				checkNoRange(t, n, weights, weights, bad, v)
				checkNoRange(t, n, weights, weights, v, bad)
			}
		}
	}
}

// boundsFor gives the weights themselves, all weights, and some bounds between.
func boundsFor(n impl.Net) iter.Seq2[[]int, []int] {
	return func(yield func([]int, []int) bool) {
		weights := weightsIn(n)
		count := len(weights)
		if !yield(weights, weights) || !yield(slices.Repeat([]int{1}, count), slices.Repeat([]int{200}, count)) {
			return
		}
		for step := range 3 {
			var low, high []int
			for i, w := range weights {
				low = append(low, w-(i*31+step*7)%w)
				high = append(high, w+(i*53+step*11)%(201-w))
			}
			if !yield(low, high) || !yield(weights, high) || !yield(low, weights) {
				return
			}
		}
	}
}

func TestResistanceRangesOfAllNets(t *testing.T) {
	for n := range rangeNets() {
		if n.Nodes == 5 && len(n.Wires)%3 > 0 {
			continue
		}
		for low, high := range boundsFor(n) {
			least, greatest := resistancesByHand(netWithWeights(n, high)), resistancesByHand(netWithWeights(n, low))
			for a := range n.Nodes {
				for b := range n.Nodes {
					first, second, ok := impl.ResistanceRange(n, low, high, a, b)
					if !ok || first != least[a][b] || second != greatest[a][b] {
						t.Fatalf("ResistanceRange(%v, %v, %v, %d, %d) = %v, %v, %v, not %v, %v", n, low, high, a, b, first, second, ok, least[a][b], greatest[a][b])
					}
				}
			}
		}
	}
}

// weightsBetween gives all weights from low to high if they are few, and
// otherwise some of them: each one at a bound, in the middle or anywhere.
func weightsBetween(low []int, high []int) iter.Seq[[]int] {
	return func(yield func([]int) bool) {
		count := 1
		for i := range low {
			count = min(count*(high[i]-low[i]+1), 1000)
		}
		steps := count
		if count == 1000 {
			steps = 12
		}
		for step := range steps {
			var weights []int
			rest := step
			for i := range low {
				width := high[i] - low[i] + 1
				switch {
				case count < 1000:
					weights = append(weights, low[i]+rest%width)
					rest /= width
				case step < 4:
					weights = append(weights, []int{low[i], high[i], (low[i] + high[i]) / 2}[(i*(step+1)+step/3)%3])
				default:
					weights = append(weights, low[i]+(i*71+step*37)%width)
				}
			}
			if !yield(weights) {
				return
			}
		}
	}
}

// Promise 6: resistances stay within their range for weights between the
// bounds, and they reach both of its ends.
func TestResistancesStayWithinTheirRange(t *testing.T) {
	inside, count := 0, 0
	for n := range rangeNets() {
		count++
		if n.Nodes == 5 && count%13 != 0 {
			continue
		}
		for low, high := range narrowBounds(n) {
			for a := range n.Nodes {
				for b := range a {
					least, greatest, _ := impl.ResistanceRange(n, low, high, a, b)
					for weights := range weightsBetween(low, high) {
						r, ok := impl.ResistanceOf(netWithWeights(n, weights), a, b)
						if !ok || impl.RatioCmp(least, r) > 0 || impl.RatioCmp(r, greatest) > 0 {
							t.Fatalf("with the weights %v between %v and %v, the resistance between %d and %d in %v is %v, and not from %v to %v", weights, low, high, a, b, n, r, least, greatest)
						}
						if impl.RatioCmp(least, r) < 0 && impl.RatioCmp(r, greatest) < 0 {
							inside++
						}
					}
				}
			}
		}
	}
	if inside < 10000 {
		t.Errorf("only %d resistances are not at an end of their range", inside)
	}
}

// narrowBounds gives two pairs of bounds between which there are few weights if
// there are few wires, and a wide pair.
func narrowBounds(n impl.Net) iter.Seq2[[]int, []int] {
	return func(yield func([]int, []int) bool) {
		for _, width := range []int{1, 2, 60} {
			var low, high []int
			for _, w := range n.Wires {
				low = append(low, max(1, w.W-width))
				high = append(high, min(200, w.W+width))
			}
			if !yield(low, high) {
				return
			}
		}
	}
}

// Promise 6: wider bounds have a wider range. With bounds that are equal to the
// weights, it is the resistance.
func TestWiderBoundsHaveAWiderRange(t *testing.T) {
	for n := range rangeNets() {
		if n.Nodes == 5 && len(n.Wires)%3 > 0 {
			continue
		}
		for a := range n.Nodes {
			for b := range n.Nodes {
				r, _ := impl.ResistanceOf(n, a, b)
				least, greatest, ok := impl.ResistanceRange(n, weightsIn(n), weightsIn(n), a, b)
				if !ok || least != r || greatest != r {
					t.Fatalf("ResistanceRange(%v, %d, %d) of the weights is %v, %v, not %v", n, a, b, least, greatest, r)
				}
				for low, high := range narrowBounds(n) {
					first, second, ok := impl.ResistanceRange(n, low, high, a, b)
					if !ok || impl.RatioCmp(first, least) > 0 || impl.RatioCmp(second, greatest) < 0 {
						t.Fatalf("ResistanceRange(%v, %v, %v, %d, %d) = %v, %v, which is less than from %v to %v", n, low, high, a, b, first, second, least, greatest)
					}
					least, greatest = first, second
				}
			}
		}
	}
}

// Promise 2: a resistance is the same from both sides, and so are its range, its
// sensitive wires and the most sensitive one.
func TestTolerancesAreSymmetric(t *testing.T) {
	for n := range rangeNets() {
		if n.Nodes == 5 && len(n.Wires)%3 > 0 {
			continue
		}
		low, high := slices.Repeat([]int{1}, len(n.Wires)), weightsIn(n)
		for a := range n.Nodes {
			for b := range a {
				least, greatest, ok := impl.ResistanceRange(n, low, high, a, b)
				if first, second, same := impl.ResistanceRange(n, low, high, b, a); !ok || !same || first != least || second != greatest {
					t.Fatalf("ResistanceRange(%v, %v, %v) is %v, %v for %d and %d and %v, %v back", n, low, high, least, greatest, a, b, first, second)
				}
				if impl.MostSensitive(n, a, b) != impl.MostSensitive(n, b, a) {
					t.Fatalf("MostSensitive(%v) is not the same for %d and %d and back", n, a, b)
				}
				for wire := range n.Wires {
					if impl.IsSensitive(n, a, b, wire) != impl.IsSensitive(n, b, a, wire) {
						t.Fatalf("IsSensitive(%v) of %d is not the same for %d and %d and back", n, wire, a, b)
					}
				}
			}
		}
	}
}

func TestIsSensitive(t *testing.T) {
	full := netOf(3, 2, 1, 0, 1, 199, 0, 2, 200, 1, 2, 200)
	tail := netOf(4, 2, 1, 0, 2, 1, 1, 2, 1, 2, 3, 7)
	cases := []struct {
		n    impl.Net
		a, b int
		want []bool
	}{
		{netOf(2, 2, 1, 0, 1, 1), 0, 1, []bool{true}},
		{netOf(2, 1, 1000, 0, 1, 199), 1, 0, []bool{true}},
		{netOf(2, 1, 1000, 0, 1, 200), 1, 0, []bool{false}},
		{netOf(2, 2, 1, 0, 1, 1), 0, 0, []bool{false}},
		{netOf(2, 2, 1, 0, 1, 1), 1, 1, []bool{false}},
		{seriesNet(), 0, 1, []bool{true, true}},
		{seriesNet(), 0, 2, []bool{true, false}},
		{seriesNet(), 1, 2, []bool{false, true}},
		{triangleNet(), 0, 1, []bool{true, true, true}},
		{triangleNet(), 2, 1, []bool{true, true, true}},
		{triangleNet(), 2, 2, []bool{false, false, false}},
		{balancedNet(), 0, 1, []bool{true, true, true, true, false}},
		{balancedNet(), 2, 3, []bool{true, true, true, true, true}},
		{balancedNet(), 0, 2, []bool{true, true, true, true, true}},
		{tail, 0, 1, []bool{true, true, false}},
		{tail, 1, 3, []bool{false, true, true}},
		{full, 0, 1, []bool{true, false, false}},
		{full, 0, 2, []bool{true, false, false}},
		{sameWeights(4, 200), 0, 1, []bool{false, false, false, false, false, false}},
		{sameWeights(4, 199), 0, 1, []bool{true, true, true, true, true, false}},
		{sameWeights(5, 1), 1, 3, []bool{true, false, true, false, true, true, true, true, false, true}},
	}
	for _, c := range cases {
		for wire, want := range c.want {
			if impl.IsSensitive(c.n, c.a, c.b, wire) != want {
				t.Errorf("IsSensitive(%v, %d, %d, %d) is %v", c.n, c.a, c.b, wire, !want)
			}
		}
	}
}

func TestMostSensitive(t *testing.T) {
	ring := netOf(4, 2, 1, 0, 1, 1, 0, 3, 1, 1, 2, 1, 2, 3, 1)
	cases := []struct {
		n          impl.Net
		a, b, want int
	}{
		{netOf(2, 2, 1, 0, 1, 1), 0, 1, 0},
		{netOf(2, 1, 1000, 0, 1, 199), 1, 0, 0},
		{netOf(2, 2, 1, 0, 1, 200), 0, 1, -1},
		{seriesNet(), 0, 1, 0},
		{seriesNet(), 0, 2, 0},
		{seriesNet(), 2, 1, 1},
		{netOf(3, 2, 1, 0, 2, 3, 1, 2, 2), 0, 1, 1},
		{triangleNet(), 0, 1, 0},
		{triangleNet(), 0, 2, 1},
		{triangleNet(), 2, 1, 2},
		{netOf(3, 3, 1, 0, 1, 200, 0, 2, 1, 1, 2, 2), 0, 1, 1},
		// several wires with the same effect, among them all that have none
		{netOf(3, 2, 1, 0, 2, 5, 1, 2, 5), 0, 1, 0},
		{ring, 0, 2, 0},
		{ring, 3, 1, 0},
		{ring, 2, 3, 3},
		{sameWeights(5, 1), 0, 4, 3},
		{sameWeights(4, 2), 2, 3, 5},
		{netOf(5, 2, 1, 0, 2, 5, 0, 3, 2, 0, 4, 2, 1, 2, 5, 1, 3, 2, 1, 4, 2), 0, 1, 0},
		{netOf(5, 2, 1, 0, 2, 5, 0, 3, 2, 0, 4, 2, 1, 2, 5, 1, 3, 2, 1, 4, 2), 3, 4, 1},
		{netOf(3, 2, 1, 0, 1, 200, 1, 2, 4), 0, 1, 1},
		{netOf(4, 2, 1, 0, 1, 200, 0, 2, 4, 1, 3, 4), 0, 1, 1},
		{netOf(4, 2, 1, 0, 1, 200, 0, 2, 200, 1, 3, 4), 0, 1, 2},
		// wires whose weight cannot be greater
		{netOf(3, 2, 1, 0, 1, 200, 0, 2, 199, 1, 2, 199), 0, 1, 1},
		{netOf(3, 2, 1, 0, 1, 200, 0, 2, 199, 1, 2, 198), 0, 1, 2},
		{netOf(3, 2, 1, 0, 1, 200, 0, 2, 200, 1, 2, 1), 0, 1, 2},
		{netOf(3, 2, 1, 0, 1, 1, 0, 2, 200, 1, 2, 200), 0, 2, 0},
		{sameWeights(3, 200), 0, 1, -1},
		{sameWeights(5, 200), 3, 1, -1},
		{sameWeights(5, 199), 3, 1, 5},
	}
	for _, c := range cases {
		if got := impl.MostSensitive(c.n, c.a, c.b); got != c.want {
			t.Errorf("MostSensitive(%v, %d, %d) = %d, not %d", c.n, c.a, c.b, got, c.want)
		}
	}
}

// checkNotSensitive is for nodes between which no resistance can change.
func checkNotSensitive(t *testing.T, n impl.Net, a int, b int) {
	t.Helper()
	if got := impl.MostSensitive(n, a, b); got != -1 {
		t.Errorf("MostSensitive(%.400v, %d, %d) = %d", n, a, b, got)
	}
	for wire := -1; wire <= 11; wire++ {
		checkNotSensitiveWire(t, n, a, b, wire)
	}
}

func checkNotSensitiveWire(t *testing.T, n impl.Net, a int, b int, wire int) {
	t.Helper()
	if impl.IsSensitive(n, a, b, wire) {
		t.Errorf("IsSensitive(%.400v, %d, %d, %d) is true", n, a, b, wire)
	}
}

func TestNoSensitiveWires(t *testing.T) {
	for _, n := range goodNets() {
		for v := range n.Nodes {
			checkNotSensitive(t, n, v, v)
			for _, bad := range []int{math.MinInt, -1 << 32, -2, -1, n.Nodes, n.Nodes + 1, 5, 1 << 32, math.MaxInt} {
				if !isNode(n, bad) {
					checkNotSensitive(t, n, v, bad)
					checkNotSensitive(t, n, bad, v)
					checkNotSensitive(t, n, bad, bad)
				}
			}
		}
		for _, wire := range wiresOutside(n) {
			checkNotSensitiveWire(t, n, 0, n.Nodes-1, wire)
			checkNotSensitiveWire(t, n, n.Nodes-1, 0, wire)
		}
	}
}

// wiresOutside gives indices of wires that do not exist.
func wiresOutside(n impl.Net) []int {
	count := len(n.Wires)
	all := []int{math.MinInt, math.MinInt + count, -1 << 32, -count - 1, -count, -2, -1, count, count + 1, 2*count + 1, 10, 11, 1000, 1 << 32, 1<<32 + 1, math.MaxInt}
	return slices.DeleteFunc(all, func(wire int) bool { return wire >= 0 && wire < count })
}

func TestSensitiveWiresOfAllNets(t *testing.T) {
	sensitive, others, several := 0, 0, 0
	for n := range rangeNets() {
		e := effectsByHand(n)
		for a := range n.Nodes {
			for b := range n.Nodes {
				if a == b {
					continue
				}
				want, same := e.most(a, b)
				if got := impl.MostSensitive(n, a, b); got != want {
					t.Fatalf("MostSensitive(%v, %d, %d) = %d, not %d", n, a, b, got, want)
				}
				if same > 1 {
					several++
				}
				for wire := range n.Wires {
					isSensitive := e.isSensitive(a, b, wire)
					if impl.IsSensitive(n, a, b, wire) != isSensitive {
						t.Fatalf("IsSensitive(%v, %d, %d, %d) is %v", n, a, b, wire, !isSensitive)
					}
					if isSensitive {
						sensitive++
					} else {
						others++
					}
				}
			}
		}
	}
	if min(sensitive, others, several) < 4000 {
		t.Errorf("%d wires are sensitive, %d are not, and %d times several have the greatest effect", sensitive, others, several)
	}
}

// Promise 6: a wire is sensitive exactly if a current flows through it, between
// two ends of different potentials.
func TestSensitiveWiresHaveACurrent(t *testing.T) {
	with, without := 0, 0
	for n := range rangeNets() {
		if n.Nodes == 5 && len(n.Wires)%3 > 1 {
			continue
		}
		for a := range n.Nodes {
			for b := range a {
				p, _ := impl.PotentialsOf(n, a, b)
				for wire, w := range n.Wires {
					if w.W == 200 {
						checkNotSensitiveWire(t, n, a, b, wire)
						continue
					}
					current, _ := impl.CurrentOn(n, a, b, w.A, w.B)
					if got := impl.IsSensitive(n, a, b, wire); got != (p[w.A] != p[w.B]) || got != (current.N != 0) {
						t.Fatalf("IsSensitive(%v, %d, %d, %d) is %v for the potentials %v and the current %v", n, a, b, wire, got, p, current)
					}
					if current.N != 0 {
						with++
					} else {
						without++
					}
				}
			}
		}
	}
	if min(with, without) < 5000 {
		t.Errorf("%d wires have a current, and %d have none", with, without)
	}
}

// Terminals and scale have no influence on the effect of a wire.
func TestSensitiveWiresOfEndsAndScale(t *testing.T) {
	one := completeNet(5, 1, 1)
	for ends := 1; ends <= 5; ends++ {
		for _, scale := range []int{1, 2, 7, 999, 1000} {
			n := completeNet(5, ends, scale)
			for a := range 5 {
				for b := range 5 {
					if got, want := impl.MostSensitive(n, a, b), impl.MostSensitive(one, a, b); got != want {
						t.Errorf("MostSensitive(%v, %d, %d) = %d, not %d", n, a, b, got, want)
					}
				}
			}
		}
	}
}

func TestCutWire(t *testing.T) {
	ring := netOf(4, 2, 6, 0, 1, 4, 0, 3, 12, 1, 2, 13, 2, 3, 200)
	cases := []struct {
		n    impl.Net
		wire int
		want impl.Net
	}{
		{triangleNet(), 0, netOf(3, 3, 1, 0, 2, 2, 1, 2, 3)},
		{triangleNet(), 1, netOf(3, 3, 1, 0, 1, 1, 1, 2, 3)},
		{triangleNet(), 2, netOf(3, 3, 1, 0, 1, 1, 0, 2, 2)},
		{ring, 0, netOf(4, 2, 6, 0, 3, 12, 1, 2, 13, 2, 3, 200)},
		{ring, 2, netOf(4, 2, 6, 0, 1, 4, 0, 3, 12, 2, 3, 200)},
		{ring, 3, netOf(4, 2, 6, 0, 1, 4, 0, 3, 12, 1, 2, 13)},
		{balancedNet(), 4, netOf(4, 2, 1, 0, 2, 1, 0, 3, 2, 1, 2, 1, 1, 3, 2)},
		{netOf(4, 1, 1, 0, 1, 1, 0, 2, 1, 1, 2, 1, 2, 3, 1), 1, netOf(4, 1, 1, 0, 1, 1, 1, 2, 1, 2, 3, 1)},
		{sameWeights(3, 200), 1, netOf(3, 1, 1, 0, 1, 200, 1, 2, 200)},
		// the scale is not divided with the weights
		{netOf(3, 2, 2, 0, 1, 4, 0, 2, 3, 1, 2, 6), 1, netOf(3, 2, 2, 0, 1, 4, 1, 2, 6)},
		// a node is lost, or the network is parted
		{netOf(2, 2, 1, 0, 1, 1), 0, impl.Net{}},
		{netOf(2, 1, 1000, 0, 1, 200), 0, impl.Net{}},
		{seriesNet(), 0, impl.Net{}},
		{seriesNet(), 1, impl.Net{}},
		{netOf(4, 4, 1, 0, 1, 13, 1, 2, 12, 2, 3, 1), 1, impl.Net{}},
		{netOf(4, 1, 1, 0, 1, 1, 0, 2, 1, 1, 2, 1, 2, 3, 1), 3, impl.Net{}},
		{netOf(5, 1, 1, 0, 1, 1, 0, 2, 1, 1, 2, 1, 1, 3, 1, 3, 4, 1), 3, impl.Net{}},
	}
	for _, c := range cases {
		if got, ok := impl.CutWire(c.n, c.wire); ok != (c.want.Nodes > 0) || !equalNets(got, c.want) {
			t.Errorf("CutWire(%v, %d) = %v, %v", c.n, c.wire, got, ok)
		}
	}
	for _, n := range goodNets() {
		for _, wire := range wiresOutside(n) {
			checkNotCut(t, n, wire)
		}
	}
}

func checkNotCut(t *testing.T, n impl.Net, wire int) {
	t.Helper()
	if got, ok := impl.CutWire(n, wire); ok || !equalNets(got, impl.Net{}) {
		t.Errorf("CutWire(%.400v, %d) = %v, %v", n, wire, got, ok)
	}
}

func TestCutWireOfAllNets(t *testing.T) {
	for n := range netsOfAllEnds() {
		for wire, w := range n.Wires {
			want, wanted := netWithWire(n, w.A, w.B, 0)
			if got, ok := impl.CutWire(n, wire); ok != wanted || !equalNets(got, want) {
				t.Fatalf("CutWire(%v, %d) = %v, %v, not %v, %v", n, wire, got, ok, want, wanted)
			}
		}
	}
}

// Promise 6: no resistance falls when a wire is cut, and it rises exactly if a
// current flowed through the wire.
func TestNoResistanceFalls(t *testing.T) {
	risen, same := 0, 0
	for n := range rangeNets() {
		if n.Nodes == 5 && len(n.Wires)%3 > 1 {
			continue
		}
		for wire, w := range n.Wires {
			cut, ok := impl.CutWire(n, wire)
			if !ok {
				continue
			}
			for a := range n.Nodes {
				for b := range a {
					before, _ := impl.ResistanceOf(n, a, b)
					after, _ := impl.ResistanceOf(cut, a, b)
					current, _ := impl.CurrentOn(n, a, b, w.A, w.B)
					order := impl.RatioCmp(after, before)
					if order < 0 || (order > 0) != (current.N != 0) {
						t.Fatalf("without the wire %d and its current %v, the resistance between %d and %d in %v is %v and not %v", wire, current, a, b, n, after, before)
					}
					if order > 0 {
						risen++
					} else {
						same++
					}
				}
			}
		}
	}
	if min(risen, same) < 2000 {
		t.Errorf("%d resistances have risen, and %d are the same", risen, same)
	}
}

// Promise 2: the trees with a wire and those without it are all trees. Those
// with it are the trees of the network in which its ends are one node.
func TestTreesWithAndWithoutAWire(t *testing.T) {
	whole, parted := 0, 0
	for n := range smallNets() {
		for wire, w := range n.Wires {
			cut, isWhole := impl.CutWire(n, wire)
			joined, ok := impl.JoinNodes(n, w.A, w.B)
			if without, with := impl.TreeSum(cut), w.W*impl.TreeSum(joined); !ok || impl.TreeSum(n) != without+with {
				t.Fatalf("the trees of %v have the sum %d, with %d for those without the wire %d and %d for those with it", n, impl.TreeSum(n), without, wire, with)
			}
			if isWhole {
				whole++
			} else {
				parted++
			}
		}
	}
	if min(whole, parted) < 500 {
		t.Errorf("%d networks are whole without a wire, and %d are parted", whole, parted)
	}
}

func TestTriangleGap(t *testing.T) {
	tail := netOf(4, 2, 1, 0, 2, 1, 1, 2, 1, 2, 3, 7)
	cases := []struct {
		n       impl.Net
		a, b, c int
		want    impl.Ratio
	}{
		{netOf(1, 1, 1), 0, 0, 0, ratio(0, 1)},
		{netOf(2, 2, 1000, 0, 1, 7), 0, 0, 1, ratio(0, 1)},
		{netOf(2, 2, 1000, 0, 1, 7), 0, 1, 1, ratio(0, 1)},
		{netOf(2, 2, 1000, 0, 1, 7), 0, 1, 0, ratio(2000, 7)},
		{netOf(2, 2, 1000, 0, 1, 7), 1, 0, 1, ratio(2000, 7)},
		{netOf(2, 2, 1000, 0, 1, 7), 1, 1, 1, ratio(0, 1)},
		{seriesNet(), 0, 2, 1, ratio(0, 1)},
		{seriesNet(), 0, 1, 2, ratio(1, 1)},
		{seriesNet(), 2, 0, 1, ratio(2, 1)},
		{seriesNet(), 0, 1, 0, ratio(3, 1)},
		{triangleNet(), 0, 2, 1, ratio(2, 11)},
		{triangleNet(), 1, 2, 0, ratio(2, 11)},
		{triangleNet(), 0, 1, 2, ratio(4, 11)},
		{triangleNet(), 1, 0, 2, ratio(6, 11)},
		{triangleNet(), 1, 0, 1, ratio(10, 11)},
		{tail, 0, 2, 3, ratio(0, 1)},
		{tail, 0, 1, 3, ratio(2, 1)},
		{tail, 1, 3, 0, ratio(2, 7)},
		{netOf(4, 4, 9, 0, 1, 5, 1, 2, 7, 2, 3, 9), 0, 1, 3, ratio(0, 1)},
		{netOf(4, 4, 9, 0, 1, 5, 1, 2, 7, 2, 3, 9), 3, 2, 0, ratio(0, 1)},
		{netOf(4, 4, 9, 0, 1, 5, 1, 2, 7, 2, 3, 9), 1, 3, 2, ratio(2, 1)},
		{sameWeights(5, 200), 0, 4, 2, ratio(1, 500)},
		{withScale(sameWeights(5, 1), 1000), 0, 4, 2, ratio(400, 1)},
	}
	for _, c := range cases {
		if got, ok := impl.TriangleGap(c.n, c.a, c.b, c.c); !ok || got != c.want {
			t.Errorf("TriangleGap(%v, %d, %d, %d) = %v, %v", c.n, c.a, c.b, c.c, got, ok)
		}
	}
}

func checkNoGap(t *testing.T, n impl.Net, a int, b int, c int) {
	t.Helper()
	if got, ok := impl.TriangleGap(n, a, b, c); ok || got != (impl.Ratio{}) {
		t.Errorf("TriangleGap(%.400v, %d, %d, %d) = %v, %v", n, a, b, c, got, ok)
	}
}

func TestTriangleGapNodesNotValid(t *testing.T) {
	for _, n := range goodNets() {
		for _, bad := range []int{math.MinInt, -1 << 32, -2, -1, n.Nodes, n.Nodes + 1, 5, 1 << 32, math.MaxInt} {
			if isNode(n, bad) {
				continue
			}
			for _, v := range []int{0, n.Nodes - 1, bad} {
				for _, w := range []int{0, n.Nodes - 1, bad} {
					checkNoGap(t, n, bad, v, w)
					checkNoGap(t, n, v, bad, w)
					checkNoGap(t, n, v, w, bad)
				}
			}
		}
	}
}

// checkGaps holds the gaps of all nodes against the resistances, and returns
// how many sums of resistances are no valid fractions on the way.
func checkGaps(t *testing.T, n impl.Net, resistances [][]impl.Ratio) int {
	t.Helper()
	beyond := 0
	for a := range n.Nodes {
		for b := range n.Nodes {
			for c := range n.Nodes {
				want := new(big.Rat).Add(exact(resistances[a][b]), exact(resistances[b][c]))
				want.Sub(want, exact(resistances[a][c]))
				if got, ok := impl.TriangleGap(n, a, b, c); !ok || got != asRatio(want) {
					t.Fatalf("TriangleGap(%v, %d, %d, %d) = %v, %v, not %v", n, a, b, c, got, ok, want)
				}
				if impl.RatioSum(resistances[a][b], resistances[b][c]) == (impl.Ratio{}) {
					beyond++
				}
			}
		}
	}
	return beyond
}

// A gap has a value also where the resistances have no RatioSum.
func TestTriangleGapsOfAllNets(t *testing.T) {
	beyond := 0
	for n := range rangeNets() {
		beyond += checkGaps(t, n, resistancesByHand(n))
	}
	for n := range greatestNets() {
		if n.Ends == n.Nodes {
			beyond += checkGaps(t, n, resistancesByHand(n))
		}
	}
	if beyond == 0 {
		t.Error("all resistances have a RatioSum")
	}
}

// Promise 2: a gap is never negative, and the same from both sides. It is 0
// exactly if every path from the first node to the last one passes the other.
func TestTriangleGapsAreNotNegative(t *testing.T) {
	zero, positive := 0, 0
	for n := range rangeNets() {
		if n.Nodes == 5 && len(n.Wires)%3 > 1 {
			continue
		}
		for a := range n.Nodes {
			for b := range n.Nodes {
				for c := range n.Nodes {
					gap, ok := impl.TriangleGap(n, a, b, c)
					if !ok || gap.N < 0 || (gap.N == 0) != isBetween(n, a, b, c) {
						t.Fatalf("TriangleGap(%v, %d, %d, %d) = %v, %v", n, a, b, c, gap, ok)
					}
					if back, _ := impl.TriangleGap(n, c, b, a); back != gap {
						t.Fatalf("TriangleGap(%v, %d, %d, %d) = %v, and %v back", n, a, b, c, gap, back)
					}
					if gap.N == 0 {
						zero++
					} else {
						positive++
					}
				}
			}
		}
	}
	if min(zero, positive) < 5000 {
		t.Errorf("%d gaps are 0, and %d are not", zero, positive)
	}
}

// isBetween reports whether c cannot be reached from a without b.
func isBetween(n impl.Net, a int, b int, c int) bool {
	if a == b || b == c {
		return true
	}
	reached := map[int]bool{a: true}
	for range n.Nodes {
		for _, w := range n.Wires {
			if w.A != b && w.B != b && (reached[w.A] || reached[w.B]) {
				reached[w.A], reached[w.B] = true, true
			}
		}
	}
	return !reached[c]
}

func checkNoTolerances(t *testing.T, n impl.Net) {
	t.Helper()
	weights := weightsIn(n)
	ones, greatest := slices.Repeat([]int{1}, len(weights)), slices.Repeat([]int{200}, len(weights))
	for _, low := range [][]int{nil, weights, ones} {
		for _, high := range [][]int{nil, weights, greatest} {
			checkBounds(t, n, low, high, false)
		}
	}
	for a := range impl.MaxNodes + 1 {
		for b := range impl.MaxNodes + 1 {
			checkNoRange(t, n, ones, greatest, a, b)
			checkNotSensitive(t, n, a, b)
			checkNoGap(t, n, a, b, (a+b)/2)
			checkNoGap(t, n, a, (a+b+1)%3, b)
		}
	}
	for wire := -1; wire <= 11; wire++ {
		checkNotCut(t, n, wire)
	}
	for _, wire := range wiresOutside(n) {
		checkNotCut(t, n, wire)
		checkNotSensitiveWire(t, n, 0, 1, wire)
	}
}

// Neither a cut nor a greater weight nor a bound may make a network valid.
func TestTolerancesOfNetsNotValid(t *testing.T) {
	for _, n := range append(badNets(), nearlyGoodNets()...) {
		checkNoTolerances(t, n)
	}
}

// Those of allNets in which a node cannot be reached.
func TestTolerancesOfNodesApart(t *testing.T) {
	for n := range allNets() {
		if !isValidNet(n) {
			checkNoTolerances(t, n)
		}
	}
}

func TestTolerancesKeepTheirArguments(t *testing.T) {
	for _, plain := range slices.Concat(goodNets(), badNets(), nearlyGoodNets(), []impl.Net{balancedNet()}) {
		n := withSpare(plain)
		wires := n.Wires[:cap(n.Wires)]
		wiresBefore := slices.Clone(wires)
		for _, step := range []int{-1, 0, 1} {
			low, high := listWithSpare(weightsIn(plain)), listWithSpare(weightsIn(plain))
			for i := range low {
				low[i], high[i] = low[i]-step, high[i]+step
			}
			before := wholeText(low, high)
			for b := range 3 {
				least, greatest, ok := impl.ResistanceRange(n, low, high, 0, b)
				first, second, same := impl.ResistanceRange(plain, slices.Clone(low), slices.Clone(high), 0, b)
				if first != least || second != greatest || same != ok || impl.BoundsOk(n, low, high) != impl.BoundsOk(plain, slices.Clone(low), slices.Clone(high)) {
					t.Errorf("the range of %.400v, %v and %v is not always the same", plain, low, high)
				}
			}
			if wholeText(low, high) != before {
				t.Errorf("%s is changed to %s", before, wholeText(low, high))
			}
		}
		checkSensitiveKept(t, n, plain)
		for wire := -1; wire <= len(plain.Wires); wire++ {
			checkKept(t, plain, netCall{"CutWire", func(n impl.Net) (impl.Net, bool) { return impl.CutWire(n, wire) }})
		}
		if !slices.Equal(wires, wiresBefore) {
			t.Errorf("%.400v is changed to %.400v", wiresBefore, wires)
		}
	}
}

// checkSensitiveKept compares the results with and without a spare capacity.
func checkSensitiveKept(t *testing.T, n impl.Net, plain impl.Net) {
	t.Helper()
	for a := range 3 {
		for b := range 3 {
			if impl.MostSensitive(n, a, b) != impl.MostSensitive(plain, a, b) {
				t.Errorf("MostSensitive(%.400v, %d, %d) is not always the same", plain, a, b)
			}
			for wire := -1; wire <= min(len(plain.Wires), 11); wire++ {
				if impl.IsSensitive(n, a, b, wire) != impl.IsSensitive(plain, a, b, wire) {
					t.Errorf("IsSensitive(%.400v, %d, %d, %d) is not always the same", plain, a, b, wire)
				}
			}
			gap, ok := impl.TriangleGap(n, a, 1, b)
			if other, same := impl.TriangleGap(plain, a, 1, b); other != gap || same != ok {
				t.Errorf("TriangleGap(%.400v, %d, 1, %d) is once %v and once %v", plain, a, b, gap, other)
			}
		}
	}
}

// The spare capacity behind lists that are too short must not be read either.
func TestBoundsDoNotReadTheirSpareCapacity(t *testing.T) {
	for _, n := range goodNets() {
		weights := weightsIn(n)
		for length := range weights {
			checkBounds(t, n, weights[:length], weights, false)
			checkBounds(t, n, weights, weights[:length], false)
			checkBounds(t, n, weights[:length], weights[:length], false)
		}
		spare := slices.Concat(weights, []int{500, -500})[:len(weights)]
		checkBounds(t, n, spare, spare, true)
	}
}

// A result must not depend on which of several wires with the same effect comes
// first.
func TestMostSensitiveRepeats(t *testing.T) {
	ring := netOf(4, 2, 1, 0, 1, 1, 0, 3, 1, 1, 2, 1, 2, 3, 1)
	idle := netOf(5, 2, 1, 0, 1, 200, 0, 2, 4, 0, 3, 5, 1, 4, 6, 2, 3, 7)
	for range 2000 {
		if got := impl.MostSensitive(ring, 0, 2); got != 0 {
			t.Fatalf("MostSensitive(%v, 0, 2) = %d", ring, got)
		}
		if got := impl.MostSensitive(idle, 0, 1); got != 1 {
			t.Fatalf("MostSensitive(%v, 0, 1) = %d", idle, got)
		}
		if got := impl.MostSensitive(sameWeights(5, 1), 2, 0); got != 1 {
			t.Fatalf("MostSensitive(%v, 2, 0) = %d", sameWeights(5, 1), got)
		}
	}
}

func TestTolerancesLeaveNoGoroutine(t *testing.T) {
	before := runtime.NumGoroutine()
	for range 100 {
		for _, n := range []impl.Net{netOf(1, 1, 1), seriesNet(), balancedNet(), completeNet(5, 5, 1), sameWeights(5, 200), {}} {
			impl.MostSensitive(n, 0, 1)
			impl.MostSensitive(n, 0, 0)
			impl.IsSensitive(n, 0, 1, 0)
			impl.CutWire(n, 0)
		}
	}
	checkGoroutinesEnd(t, before)
}

// Results do not depend on other calls at the same time.
func TestTolerancesAtTheSameTime(t *testing.T) {
	n, series := completeNet(5, 2, 1), seriesNet()
	e := effectsByHand(n)
	low, high := []int{1, 1}, []int{2, 2}
	var calls sync.WaitGroup
	for i := range 50 {
		calls.Go(func() {
			a := i % 5
			for step := range 20 {
				b := (a + 1 + step%4) % 5
				if want, _ := e.most(a, b); impl.MostSensitive(n, a, b) != want {
					t.Errorf("MostSensitive(%v, %d, %d) is not %d", n, a, b, want)
				}
				if least, greatest, ok := impl.ResistanceRange(series, low, high, 0, 1); !ok || least != ratio(1, 1) || greatest != ratio(2, 1) {
					t.Errorf("ResistanceRange(%v, %v, %v, 0, 1) = %v, %v, %v", series, low, high, least, greatest, ok)
				}
			}
		})
	}
	calls.Wait()
}
