package tests

import (
	"fmt"
	"iter"
	"math"
	"math/big"
	"slices"
	"sync"
	"testing"

	"loop.example/g00859/impl"
)

func equalRatioRows(a [][]impl.Ratio, b [][]impl.Ratio) bool {
	return slices.EqualFunc(a, b, func(v []impl.Ratio, w []impl.Ratio) bool { return slices.Equal(v, w) })
}

func copyOfRatioRows(m [][]impl.Ratio) [][]impl.Ratio {
	rows := make([][]impl.Ratio, len(m))
	for i := range m {
		rows[i] = slices.Clone(m[i])
	}
	return rows
}

// ratioRows makes a square matrix from the terms of its fractions.
func ratioRows(size int, terms ...int) [][]impl.Ratio {
	var rows [][]impl.Ratio
	for i := range size {
		rows = append(rows, ratiosOf(terms[i*2*size:(i+1)*2*size]...))
	}
	return rows
}

// wholeRows makes a square matrix of integers over one divisor.
func wholeRows(size int, divisor int, numbers ...int) [][]impl.Ratio {
	var rows [][]impl.Ratio
	for i := range size {
		var row []impl.Ratio
		for _, number := range numbers[i*size : (i+1)*size] {
			row = append(row, lowestTerms(number, divisor))
		}
		rows = append(rows, row)
	}
	return rows
}

// netsOfAllEnds gives the valid ones of allNets with every number of terminals.
func netsOfAllEnds() iter.Seq[impl.Net] {
	return func(yield func(impl.Net) bool) {
		for n := range allNets() {
			for n.Ends = 1; n.Ends <= n.Nodes; n.Ends++ {
				if isValidNet(n) && !yield(n) {
					return
				}
			}
		}
	}
}

// A reduction is a network whose inner nodes are removed from the last one on,
// each one replaced by conductances between its neighbours: another way to
// reckon a response, which needs no determinant. It keeps the row that a node
// has when it is removed.
type reduction struct {
	n            impl.Net
	conductances [][]*big.Rat
}

func reductionOf(n impl.Net) reduction { return reductionFrom(n, conductancesOf(n)) }

// reductionFrom needs no wires, and so takes any number of nodes.
func reductionFrom(n impl.Net, conductances [][]*big.Rat) reduction {
	r := reduction{n: n, conductances: conductances}
	for v := n.Nodes - 1; v >= n.Ends; v-- {
		total := exactSum(r.conductances[v][:v])
		for a := range v {
			for b := range v {
				if a != b {
					added := new(big.Rat).Mul(r.conductances[v][a], r.conductances[v][b])
					r.conductances[a][b].Add(r.conductances[a][b], added.Quo(added, total))
				}
			}
		}
	}
	return r
}

func conductancesOf(n impl.Net) [][]*big.Rat {
	table := tableOf(n)
	var conductances [][]*big.Rat
	for a := range n.Nodes {
		var row []*big.Rat
		for b := range n.Nodes {
			row = append(row, big.NewRat(int64(table[a][b]), int64(n.Scale)))
		}
		conductances = append(conductances, row)
	}
	return conductances
}

func exactSum(list []*big.Rat) *big.Rat {
	sum := new(big.Rat)
	for _, r := range list {
		sum.Add(sum, r)
	}
	return sum
}

func (r reduction) response() [][]impl.Ratio {
	var rows [][]impl.Ratio
	for i := range r.n.Ends {
		var row []impl.Ratio
		for j := range r.n.Ends {
			element := new(big.Rat).Neg(r.conductances[i][j])
			if i == j {
				element = exactSum(r.conductances[i][:r.n.Ends])
			}
			row = append(row, asRatio(element))
		}
		rows = append(rows, row)
	}
	return rows
}

// The potentials of all nodes: that of an inner node is the mean of those of
// its neighbours at the time when it is removed.
func (r reduction) potentials(volts []int) []*big.Rat {
	var p []*big.Rat
	for _, volt := range volts {
		p = append(p, big.NewRat(int64(volt), 1))
	}
	for v := r.n.Ends; v < r.n.Nodes; v++ {
		mean := new(big.Rat)
		for a := range v {
			mean.Add(mean, new(big.Rat).Mul(r.conductances[v][a], p[a]))
		}
		p = append(p, mean.Quo(mean, exactSum(r.conductances[v][:v])))
	}
	return p
}

// net is the only network of the terminals without a common divisor.
func (r reduction) net() (impl.Net, bool) {
	return netOfConductances(r.conductances, r.n.Ends, r.n.Ends)
}

// netOfConductances has the least common scale at which the conductances
// between the first nodes are integers.
func netOfConductances(conductances [][]*big.Rat, nodes int, ends int) (impl.Net, bool) {
	scale := big.NewInt(1)
	for a := range nodes {
		for b := range a {
			below := conductances[a][b].Denom()
			common := new(big.Int).GCD(nil, nil, scale, below)
			scale.Mul(scale, new(big.Int).Quo(below, common))
		}
	}
	var table weightTable
	fits := scale.Cmp(big.NewInt(1000)) <= 0
	for a := range nodes {
		for b := range nodes {
			if a != b {
				weight := new(big.Rat).Mul(conductances[a][b], new(big.Rat).SetInt(scale))
				fits = fits && weight.Cmp(big.NewRat(200, 1)) <= 0
				table[a][b] = int(weight.Num().Int64())
			}
		}
	}
	if !fits {
		return impl.Net{}, false
	}
	return table.net(nodes, ends, int(scale.Int64())), true
}

// A network with its response.
type responseCase struct {
	n    impl.Net
	want [][]impl.Ratio
}

func responseCases() []responseCase {
	return []responseCase{
		{netOf(1, 1, 1), ratioRows(1, 0, 1)},
		{netOf(1, 1, 1000), ratioRows(1, 0, 1)},
		{netOf(2, 1, 7, 0, 1, 200), ratioRows(1, 0, 1)},
		{completeNet(5, 1, 1000), ratioRows(1, 0, 1)},
		{netOf(2, 2, 1, 0, 1, 1), wholeRows(2, 1, 1, -1, -1, 1)},
		{netOf(2, 2, 1000, 0, 1, 1), wholeRows(2, 1000, 1, -1, -1, 1)},
		{netOf(2, 2, 1000, 0, 1, 200), wholeRows(2, 5, 1, -1, -1, 1)},
		{netOf(3, 2, 1, 0, 2, 1, 1, 2, 2), wholeRows(2, 3, 2, -2, -2, 2)},
		{netOf(3, 2, 5, 0, 1, 7, 0, 2, 3), wholeRows(2, 5, 7, -7, -7, 7)},
		{netOf(3, 3, 1, 0, 1, 1, 0, 2, 2, 1, 2, 3), wholeRows(3, 1, 3, -1, -2, -1, 4, -3, -2, -3, 5)},
		{netOf(3, 3, 6, 0, 1, 1, 0, 2, 2, 1, 2, 3), wholeRows(3, 6, 3, -1, -2, -1, 4, -3, -2, -3, 5)},
		{netOf(3, 3, 1, 0, 1, 5, 1, 2, 200), wholeRows(3, 1, 5, -5, 0, -5, 205, -200, 0, -200, 200)},
		{netOf(4, 3, 1, 0, 3, 1, 1, 3, 2, 2, 3, 3), wholeRows(3, 6, 5, -2, -3, -2, 8, -6, -3, -6, 9)},
		{netOf(4, 3, 2, 0, 1, 1, 0, 3, 1, 1, 3, 2, 2, 3, 3), wholeRows(3, 12, 11, -8, -3, -8, 14, -6, -3, -6, 9)},
		{netOf(4, 2, 1, 0, 2, 1, 0, 3, 1, 1, 2, 1, 1, 3, 1, 2, 3, 5), wholeRows(2, 1, 1, -1, -1, 1)},
		{netOf(4, 2, 3, 0, 2, 2, 1, 3, 4, 2, 3, 4), wholeRows(2, 3, 1, -1, -1, 1)},
		{netOf(5, 4, 30, 0, 4, 10, 1, 4, 20, 2, 4, 30, 3, 4, 40), wholeRows(4, 30, 9, -2, -3, -4, -2, 16, -6, -8, -3, -6, 21, -12, -4, -8, -12, 24)},
		{netOf(5, 5, 1, 0, 4, 1, 1, 3, 1, 2, 3, 1, 2, 4, 1), wholeRows(5, 1, 1, 0, 0, 0, -1, 0, 1, 0, -1, 0, 0, 0, 2, -1, -1, 0, -1, -1, 2, 0, -1, 0, -1, 0, 2)},
		{netOf(5, 2, 1, 0, 2, 6, 1, 4, 3, 2, 3, 3, 3, 4, 6), wholeRows(2, 1, 1, -1, -1, 1)},
		{netOf(5, 2, 1, 0, 2, 1, 1, 2, 1, 2, 3, 9, 3, 4, 9), wholeRows(2, 2, 1, -1, -1, 1)},
		{sameWeights(5, 200), ratioRows(1, 0, 1)},
		{withEnds(sameWeights(5, 200), 2), wholeRows(2, 1, 500, -500, -500, 500)},
		{withEnds(sameWeights(4, 3), 3), wholeRows(3, 1, 8, -4, -4, -4, 8, -4, -4, -4, 8)},
		{withEnds(sameWeights(5, 200), 5), wholeRows(5, 1, 800, -200, -200, -200, -200, -200, 800, -200, -200, -200, -200, -200, 800, -200, -200, -200, -200, -200, 800, -200, -200, -200, -200, -200, 800)},
	}
}

func withEnds(n impl.Net, ends int) impl.Net {
	n.Ends = ends
	return n
}

func withScale(n impl.Net, scale int) impl.Net {
	n.Scale = scale
	return n
}

func TestResponseOf(t *testing.T) {
	for _, c := range responseCases() {
		if got, ok := impl.ResponseOf(c.n); !ok || !equalRatioRows(got, c.want) {
			t.Errorf("ResponseOf(%v) = %v, %v", c.n, got, ok)
		}
	}
}

func TestResponsesOfAllNets(t *testing.T) {
	for n := range netsOfAllEnds() {
		want := reductionOf(n).response()
		if got, ok := impl.ResponseOf(n); !ok || !equalRatioRows(got, want) {
			t.Fatalf("ResponseOf(%v) = %v, %v, not %v", n, got, ok, want)
		}
	}
}

// greatestNets gives networks with all wires, of great weights alone or beside
// small ones, with the least and with great scales.
func greatestNets() iter.Seq[impl.Net] {
	return func(yield func(impl.Net) bool) {
		for n := range netsOfAllEnds() {
			if len(n.Wires) < n.Nodes*(n.Nodes-1)/2 {
				continue
			}
			for _, weights := range [][]int{{200}, {199, 200}, {200, 1}, {1, 1, 200}, {199, 200, 197}, {193, 1, 200, 199, 197, 191}} {
				for _, scale := range []int{1, 997, 999, 1000} {
					great := withScale(copyOf(n), scale)
					for i := range great.Wires {
						great.Wires[i].W = weights[i%len(weights)]
					}
					if !yield(great) {
						return
					}
				}
			}
		}
	}
}

// The greatest terms: they are beyond what the functions of fractions can add,
// and still there is a response.
func TestResponseOfGreatestTerms(t *testing.T) {
	for n := range greatestNets() {
		checkEverything(t, n)
	}
}

// checkEverything holds all that is calculated from the response of a valid
// network against the other way to reckon it.
func checkEverything(t *testing.T, n impl.Net) {
	t.Helper()
	r := reductionOf(n)
	if got, ok := impl.ResponseOf(n); !ok || !equalRatioRows(got, r.response()) {
		t.Errorf("ResponseOf(%v) = %v, %v, not %v", n, got, ok, r.response())
	}
	want, wanted := r.net()
	if got, ok := impl.ResponseNet(n); ok != wanted || !equalNets(got, want) {
		t.Errorf("ResponseNet(%v) = %v, %v, not %v, %v", n, got, ok, want, wanted)
	}
	for _, volts := range voltLists(n.Ends) {
		checkCurrentsFor(t, r, volts)
	}
}

// Promise 3: row i and column j have the sum over the forests in which these
// two terminals are joined and each other one is in a tree of its own, divided
// by that over the forests in which each terminal is in a tree of its own.
func TestResponsesFromForests(t *testing.T) {
	for n := range netsOfAllEnds() {
		got, _ := impl.ResponseOf(n)
		apart := 0
		for f := range forestsOf(n, n.Ends) {
			if f.joinedPairs(n.Ends) == 0 {
				apart += f.product
			}
		}
		var joined weightTable
		for f := range forestsOf(n, n.Ends-1) {
			for i := range n.Ends {
				for j := range n.Ends {
					if i != j && f.joinedPairs(n.Ends) == 1 && f.joins(i, j) {
						joined[i][j] += f.product
						joined[i][i] -= f.product
					}
				}
			}
		}
		for i := range n.Ends {
			for j := range n.Ends {
				if want := lowestTerms(-joined[i][j], n.Scale*apart); got[i][j] != want {
					t.Fatalf("ResponseOf(%v) has %v in row %d and column %d, not %v", n, got[i][j], i, j, want)
				}
			}
		}
	}
}

// joinedPairs is the number of pairs of terminals that a forest joins.
func (f forest) joinedPairs(ends int) int {
	count := 0
	for a := range ends {
		for b := range a {
			if f.joins(a, b) {
				count++
			}
		}
	}
	return count
}

// Promise 3: a response is symmetric with row sums 0, and no element off the
// diagonal is greater than 0. IsResponse agrees unless a sum is not valid on
// the way.
func TestResponsesAreResponses(t *testing.T) {
	accepted, beyond := 0, 0
	for n := range netsOfAllEnds() {
		m, ok := impl.ResponseOf(n)
		if !ok || len(m) != n.Ends {
			t.Fatalf("ResponseOf(%v) = %v, %v", n, m, ok)
		}
		for i, row := range m {
			sum := new(big.Rat)
			for j, element := range row {
				if len(row) != n.Ends || !isValid(element.N, element.D) || element != m[j][i] || i != j && element.N > 0 {
					t.Fatalf("ResponseOf(%v) = %v", n, m)
				}
				sum.Add(sum, exact(element))
			}
			if sum.Sign() != 0 {
				t.Fatalf("row %d of ResponseOf(%v) = %v has the sum %v", i, n, m, sum)
			}
		}
		want := reckonedIsResponse(m)
		if impl.IsResponse(m) != want {
			t.Fatalf("IsResponse(%v) is %v", m, !want)
		}
		if want {
			accepted++
		} else {
			beyond++
		}
	}
	if accepted < 1000 || beyond < 50 {
		t.Errorf("%d responses are accepted, and %d have a sum that is not valid", accepted, beyond)
	}
}

// Promise 3: between two terminals the response is the inverse of the
// resistance.
func TestResponseIsInverseOfResistance(t *testing.T) {
	for n := range netsOfAllEnds() {
		if n.Ends != 2 {
			continue
		}
		m, _ := impl.ResponseOf(n)
		r, _ := impl.ResistanceOf(n, 0, 1)
		if want := asRatio(new(big.Rat).Inv(exact(r))); m[0][0] != want || m[1][1] != want {
			t.Errorf("ResponseOf(%v) = %v, and the resistance is %v", n, m, r)
		}
	}
}

func TestResponseNet(t *testing.T) {
	cases := []struct{ n, want impl.Net }{
		{netOf(1, 1, 1), netOf(1, 1, 1)},
		{impl.Net{Nodes: 1, Ends: 1, Scale: 1000, Wires: []impl.Wire{}}, netOf(1, 1, 1)},
		{netOf(2, 1, 7, 0, 1, 200), netOf(1, 1, 1)},
		{completeNet(5, 1, 1000), netOf(1, 1, 1)},
		{netOf(2, 2, 1, 0, 1, 1), netOf(2, 2, 1, 0, 1, 1)},
		{netOf(2, 2, 1000, 0, 1, 199), netOf(2, 2, 1000, 0, 1, 199)},
		{netOf(2, 2, 1000, 0, 1, 200), netOf(2, 2, 5, 0, 1, 1)},
		{netOf(2, 2, 6, 0, 1, 4), netOf(2, 2, 3, 0, 1, 2)},
		{netOf(3, 2, 1, 0, 2, 1, 1, 2, 2), netOf(2, 2, 3, 0, 1, 2)},
		{netOf(3, 2, 5, 0, 1, 7, 0, 2, 3), netOf(2, 2, 5, 0, 1, 7)},
		{netOf(3, 3, 1, 0, 1, 1, 0, 2, 2, 1, 2, 3), netOf(3, 3, 1, 0, 1, 1, 0, 2, 2, 1, 2, 3)},
		{netOf(3, 3, 12, 0, 1, 6, 1, 2, 18), netOf(3, 3, 2, 0, 1, 1, 1, 2, 3)},
		{netOf(4, 3, 1, 0, 3, 1, 1, 3, 2, 2, 3, 3), netOf(3, 3, 6, 0, 1, 2, 0, 2, 3, 1, 2, 6)},
		{netOf(4, 3, 2, 0, 1, 1, 0, 3, 1, 1, 3, 2, 2, 3, 3), netOf(3, 3, 12, 0, 1, 8, 0, 2, 3, 1, 2, 6)},
		{netOf(4, 3, 1, 0, 1, 9, 1, 3, 4, 2, 3, 4), netOf(3, 3, 1, 0, 1, 9, 1, 2, 2)},
		{netOf(4, 3, 1, 0, 2, 9, 1, 2, 4, 2, 3, 5), netOf(3, 3, 1, 0, 2, 9, 1, 2, 4)},
		{netOf(5, 4, 30, 0, 4, 10, 1, 4, 20, 2, 4, 30, 3, 4, 40), netOf(4, 4, 30, 0, 1, 2, 0, 2, 3, 0, 3, 4, 1, 2, 6, 1, 3, 8, 2, 3, 12)},
		{completeNet(5, 5, 1), completeNet(5, 5, 1)},
		{netOf(3, 2, 1, 0, 1, 100, 0, 2, 200, 1, 2, 200), netOf(2, 2, 1, 0, 1, 200)},
		{netOf(3, 2, 1, 0, 1, 101, 0, 2, 200, 1, 2, 200), impl.Net{}},
		{netOf(3, 2, 2, 0, 1, 101, 0, 2, 200, 1, 2, 200), impl.Net{}},
		{netOf(3, 2, 3, 0, 1, 101, 0, 2, 200, 1, 2, 200), netOf(2, 2, 1, 0, 1, 67)},
		{netOf(3, 2, 10, 0, 1, 200, 0, 2, 200, 1, 2, 200), netOf(2, 2, 1, 0, 1, 30)},
		{netOf(3, 2, 1, 0, 1, 200, 0, 2, 1, 1, 2, 1), impl.Net{}},
		{netOf(3, 2, 1000, 0, 1, 99, 0, 2, 2, 1, 2, 2), netOf(2, 2, 10, 0, 1, 1)},
		{netOf(3, 2, 500, 0, 2, 1, 1, 2, 1), netOf(2, 2, 1000, 0, 1, 1)},
		{netOf(3, 2, 501, 0, 2, 1, 1, 2, 1), impl.Net{}},
		{netOf(3, 2, 1000, 0, 2, 1, 1, 2, 1), impl.Net{}},
		{netOf(3, 2, 1000, 0, 2, 2, 1, 2, 2), netOf(2, 2, 1000, 0, 1, 1)},
		{netOf(3, 2, 1000, 0, 2, 199, 1, 2, 197), impl.Net{}},
		{withEnds(sameWeights(5, 200), 2), impl.Net{}},
		{withScale(withEnds(sameWeights(5, 200), 2), 5), netOf(2, 2, 1, 0, 1, 100)},
		{withEnds(completeNet(5, 1, 1), 2), impl.Net{}},
	}
	for _, c := range cases {
		if got, ok := impl.ResponseNet(c.n); ok != (c.want.Nodes != 0) || !equalNets(got, c.want) {
			t.Errorf("ResponseNet(%v) = %v, %v", c.n, got, ok)
		}
	}
}

// Promise 3: the network of the terminals alone has the same response, and it
// is the only one without a common divisor.
func TestResponseNetsOfAllNets(t *testing.T) {
	found, none := 0, 0
	for n := range netsOfAllEnds() {
		for _, scale := range []int{n.Scale, n.Scale%4 + 1} {
			n.Scale = scale
			want, wanted := reductionOf(n).net()
			got, ok := impl.ResponseNet(n)
			if ok != wanted || !equalNets(got, want) {
				t.Fatalf("ResponseNet(%v) = %v, %v, not %v, %v", n, got, ok, want, wanted)
			}
			if !ok {
				none++
				continue
			}
			found++
			if again, same := impl.ResponseNet(got); !same || !equalNets(again, got) || !impl.AreAlike(n, got) || !impl.NetOk(got) {
				t.Fatalf("%v is not like %v, or it has itself the network %v, %v", got, n, again, same)
			}
		}
	}
	if min(found, none) < 1000 {
		t.Errorf("%d networks have a network of the terminals, and %d have none", found, none)
	}
}

// With no other nodes than terminals, the network itself is left.
func TestResponseNetOfTerminals(t *testing.T) {
	for n := range netsOfAllEnds() {
		if n.Ends == n.Nodes {
			if got, ok := impl.ResponseNet(n); !ok || !equalNets(got, dividedByHand(n)) {
				t.Errorf("ResponseNet(%v) = %v, %v", n, got, ok)
			}
		}
	}
}

func TestCurrentsAndPower(t *testing.T) {
	triangle := netOf(3, 3, 1, 0, 1, 1, 0, 2, 2, 1, 2, 3)
	divider := netOf(3, 2, 1, 0, 2, 1, 1, 2, 2)
	star := netOf(4, 3, 1, 0, 3, 1, 1, 3, 2, 2, 3, 3)
	cases := []struct {
		n        impl.Net
		volts    []int
		currents []impl.Ratio
		power    impl.Ratio
	}{
		{netOf(1, 1, 1), []int{0}, ratiosOf(0, 1), ratio(0, 1)},
		{netOf(1, 1, 1), []int{100}, ratiosOf(0, 1), ratio(0, 1)},
		{netOf(1, 1, 1000), []int{-100}, ratiosOf(0, 1), ratio(0, 1)},
		{completeNet(5, 1, 7), []int{-99}, ratiosOf(0, 1), ratio(0, 1)},
		{netOf(2, 2, 1, 0, 1, 1), []int{0, 0}, ratiosOf(0, 1, 0, 1), ratio(0, 1)},
		{netOf(2, 2, 1, 0, 1, 1), []int{1, 0}, ratiosOf(1, 1, -1, 1), ratio(1, 1)},
		{netOf(2, 2, 1, 0, 1, 1), []int{0, 1}, ratiosOf(-1, 1, 1, 1), ratio(1, 1)},
		{netOf(2, 2, 1, 0, 1, 1), []int{100, 100}, ratiosOf(0, 1, 0, 1), ratio(0, 1)},
		{netOf(2, 2, 1, 0, 1, 1), []int{100, -100}, ratiosOf(200, 1, -200, 1), ratio(40000, 1)},
		{netOf(2, 2, 1, 0, 1, 200), []int{-100, 100}, ratiosOf(-40000, 1, 40000, 1), ratio(8000000, 1)},
		{netOf(2, 2, 1000, 0, 1, 1), []int{-100, 99}, ratiosOf(-199, 1000, 199, 1000), ratio(39601, 1000)},
		{divider, []int{1, 0}, ratiosOf(2, 3, -2, 3), ratio(2, 3)},
		{divider, []int{3, 1}, ratiosOf(4, 3, -4, 3), ratio(8, 3)},
		{divider, []int{-2, 1}, ratiosOf(-2, 1, 2, 1), ratio(6, 1)},
		{triangle, []int{1, 0, -1}, ratiosOf(5, 1, 2, 1, -7, 1), ratio(12, 1)},
		{triangle, []int{0, 0, 1}, ratiosOf(-2, 1, -3, 1, 5, 1), ratio(5, 1)},
		{triangle, []int{7, 7, 7}, ratiosOf(0, 1, 0, 1, 0, 1), ratio(0, 1)},
		{triangle, []int{-5, 2, 7}, ratiosOf(-31, 1, -8, 1, 39, 1), ratio(49+2*144+3*25, 1)},
		{star, []int{1, 0, 0}, ratiosOf(5, 6, -1, 3, -1, 2), ratio(5, 6)},
		{star, []int{6, 3, -2}, ratiosOf(5, 1, 4, 1, -9, 1), ratio(60, 1)},
		{star, []int{1, 1, 2}, ratiosOf(-1, 2, -1, 1, 3, 2), ratio(3, 2)},
		{withEnds(sameWeights(5, 200), 5), []int{100, -100, 100, -100, 100}, ratiosOf(80000, 1, -120000, 1, 80000, 1, -120000, 1, 80000, 1), ratio(48000000, 1)},
		{withEnds(sameWeights(5, 200), 2), []int{100, -100}, ratiosOf(100000, 1, -100000, 1), ratio(20000000, 1)},
	}
	for _, c := range cases {
		if got, ok := impl.CurrentsFor(c.n, c.volts); !ok || !slices.Equal(got, c.currents) {
			t.Errorf("CurrentsFor(%v, %v) = %v, %v", c.n, c.volts, got, ok)
		}
		if got, ok := impl.PowerFor(c.n, c.volts); !ok || got != c.power {
			t.Errorf("PowerFor(%v, %v) = %v, %v", c.n, c.volts, got, ok)
		}
	}
}

// voltLists gives lists of potentials: 1 at one terminal, equal ones, ones at
// the limits, and others.
func voltLists(ends int) [][]int {
	lists := [][]int{slices.Repeat([]int{0}, ends), slices.Repeat([]int{100}, ends), slices.Repeat([]int{-37}, ends)}
	for i := range ends {
		one := slices.Repeat([]int{0}, ends)
		one[i] = 1
		far := slices.Repeat([]int{-100}, ends)
		far[i] = 100
		lists = append(lists, one, far)
	}
	for i := range 6 {
		var list []int
		for v := range ends {
			list = append(list, (i*67+v*v*41+v*i*13)%201-100)
		}
		lists = append(lists, list)
	}
	return lists
}

// Promise 3: the currents are those of the law of Ohm for potentials with which
// no current is left at an inner node, and the power is that of all wires.
func TestTerminalCurrentsOfAllNets(t *testing.T) {
	for n := range netsOfAllEnds() {
		r := reductionOf(n)
		for _, volts := range voltLists(n.Ends) {
			checkCurrentsFor(t, r, volts)
		}
	}
}

func checkCurrentsFor(t *testing.T, r reduction, volts []int) {
	t.Helper()
	n, p := r.n, r.potentials(volts)
	leaving, power := slices.Repeat([]*big.Rat{new(big.Rat)}, n.Nodes), new(big.Rat)
	for _, w := range n.Wires {
		drop := new(big.Rat).Sub(p[w.A], p[w.B])
		current := new(big.Rat).Mul(drop, big.NewRat(int64(w.W), int64(n.Scale)))
		leaving[w.A] = new(big.Rat).Add(leaving[w.A], current)
		leaving[w.B] = new(big.Rat).Sub(leaving[w.B], current)
		power.Add(power, drop.Mul(drop, current))
	}
	var want []impl.Ratio
	for v, current := range leaving {
		if v < n.Ends {
			want = append(want, asRatio(current))
		} else if current.Sign() != 0 {
			t.Fatalf("with the potentials %v of %v, the current %v is left at the node %d", p, n, current, v)
		}
	}
	if got, ok := impl.CurrentsFor(n, volts); !ok || !slices.Equal(got, want) {
		t.Errorf("CurrentsFor(%v, %v) = %v, %v, not %v", n, volts, got, ok, want)
	}
	got, ok := impl.PowerFor(n, volts)
	if !ok || got != asRatio(power) || got.N < 0 {
		t.Errorf("PowerFor(%v, %v) = %v, %v, not %v", n, volts, got, ok, power)
	}
	if rest := len(slices.Compact(slices.Clone(volts))) == 1; rest != (got.N == 0) {
		t.Errorf("PowerFor(%v, %v) = %v", n, volts, got)
	}
}

// The currents for 1 at one terminal are a column of the response, and they
// stay as they are if all potentials are shifted.
func TestCurrentsAreColumns(t *testing.T) {
	for n := range netsOfAllEnds() {
		m, _ := impl.ResponseOf(n)
		for j := range n.Ends {
			for _, shift := range []int{0, 99, -100} {
				volts := slices.Repeat([]int{shift}, n.Ends)
				volts[j]++
				got, ok := impl.CurrentsFor(n, volts)
				if !ok || !slices.Equal(got, m[j]) {
					t.Fatalf("CurrentsFor(%v, %v) = %v, %v, and the response is %v", n, volts, got, ok, m)
				}
				if power, ok := impl.PowerFor(n, volts); !ok || power != m[j][j] {
					t.Fatalf("PowerFor(%v, %v) = %v, %v, and the response is %v", n, volts, power, ok, m)
				}
			}
		}
	}
}

func checkNoCurrents(t *testing.T, n impl.Net, volts []int) {
	t.Helper()
	if got, ok := impl.CurrentsFor(n, volts); ok || len(got) != 0 {
		t.Errorf("CurrentsFor(%.400v, %v) = %v, %v", n, volts, got, ok)
	}
	if got, ok := impl.PowerFor(n, volts); ok || got != (impl.Ratio{}) {
		t.Errorf("PowerFor(%.400v, %v) = %v, %v", n, volts, got, ok)
	}
}

func TestVoltsNotValid(t *testing.T) {
	for _, n := range goodNets() {
		checkNoCurrents(t, n, nil)
		for length := range 2 * impl.MaxNodes {
			if length != n.Ends {
				checkNoCurrents(t, n, make([]int, length))
			}
		}
		for i := range n.Ends {
			for _, limit := range []int{100, -100} {
				volts := make([]int, n.Ends)
				volts[i] = limit
				checkCurrentsFor(t, reductionOf(n), volts)
			}
			for _, far := range []int{101, -101, 102, 200, -200, 1 << 32, -1 << 32, math.MaxInt, math.MinInt} {
				volts := make([]int, n.Ends)
				volts[i] = far
				checkNoCurrents(t, n, volts)
			}
		}
	}
}

func TestResponseOfNetsNotValid(t *testing.T) {
	good := netOf(1, 1, 1)
	for _, n := range badNets() {
		if got, ok := impl.ResponseOf(n); ok || len(got) != 0 {
			t.Errorf("ResponseOf(%.400v) = %v, %v", n, got, ok)
		}
		if got, ok := impl.ResponseNet(n); ok || !equalNets(got, impl.Net{}) {
			t.Errorf("ResponseNet(%.400v) = %v, %v", n, got, ok)
		}
		for length := range impl.MaxNodes + 2 {
			checkNoCurrents(t, n, make([]int, length))
		}
		for _, m := range []impl.Net{n, good, {}} {
			if impl.AreAlike(n, m) || impl.AreAlike(m, n) {
				t.Errorf("%.400v and %.400v are alike", n, m)
			}
		}
	}
}

// Those of allNets in which a node cannot be reached have no response.
func TestResponseOfNodesApart(t *testing.T) {
	for n := range allNets() {
		if isValidNet(n) {
			continue
		}
		_, response := impl.ResponseOf(n)
		_, net := impl.ResponseNet(n)
		if response || net || impl.AreAlike(n, n) {
			t.Errorf("%v has a response", n)
		}
		checkNoCurrents(t, n, make([]int, n.Ends))
	}
}

func TestIsResponse(t *testing.T) {
	for _, c := range responseCases() {
		if !impl.IsResponse(c.want) {
			t.Errorf("IsResponse(%v) is false", c.want)
		}
	}
	zeros := func(size int) [][]impl.Ratio { return wholeRows(size, 1, make([]int, size*size)...) }
	for size := range impl.MaxNodes + 3 {
		if want := size >= 1 && size <= impl.MaxNodes; impl.IsResponse(zeros(size)) != want {
			t.Errorf("IsResponse of %d rows of zeros is %v", size, !want)
		}
	}
	cases := []struct {
		m    [][]impl.Ratio
		want bool
	}{
		{nil, false},
		{[][]impl.Ratio{}, false},
		{[][]impl.Ratio{nil}, false},
		{[][]impl.Ratio{{}}, false},
		{[][]impl.Ratio{nil, nil}, false},
		{ratioRows(1, 0, 1), true},
		{ratioRows(1, 1, 1), false},
		{ratioRows(1, -1, 1), false},
		{ratioRows(1, 1, topDiv), false},
		{ratioRows(1, 0, 0), false},
		{ratioRows(1, 0, 2), false},
		{ratioRows(1, 0, -1), false},
		{[][]impl.Ratio{ratiosOf(0, 1, 0, 1)}, false},
		{[][]impl.Ratio{ratiosOf(1, 1, -1, 1)}, false},
		{[][]impl.Ratio{ratiosOf(0, 1), ratiosOf(0, 1)}, false},
		{[][]impl.Ratio{ratiosOf(0, 1, 0, 1), ratiosOf(0, 1)}, false},
		{[][]impl.Ratio{ratiosOf(0, 1), ratiosOf(0, 1, 0, 1)}, false},
		{[][]impl.Ratio{ratiosOf(0, 1, 0, 1), nil}, false},
		{[][]impl.Ratio{nil, ratiosOf(0, 1, 0, 1)}, false},
		{[][]impl.Ratio{ratiosOf(1, 1, -1, 1), ratiosOf(-1, 1, 1, 1, 0, 1)}, false},
		{[][]impl.Ratio{ratiosOf(1, 1, -1, 1, 0, 1), ratiosOf(-1, 1, 1, 1)}, false},
		{wholeRows(2, 1, 1, -1, -1, 1), true},
		{wholeRows(2, 3, 2, -2, -2, 2), true},
		{wholeRows(2, 1, -1, 1, 1, -1), false},
		{wholeRows(2, 1, 1, -1, -1, 2), false},
		{wholeRows(2, 1, 2, -1, -1, 1), false},
		{wholeRows(2, 1, 1, -1, -2, 2), false},
		{wholeRows(2, 1, 2, -2, -1, 1), false},
		{wholeRows(2, 1, 0, 0, -1, 1), false},
		{wholeRows(2, 1, 1, -1, 0, 0), false},
		{ratioRows(2, 1, 2, -1, 2, -2, 4, 1, 2), false},
		{ratioRows(2, 2, 4, -2, 4, -2, 4, 2, 4), false},
		{ratioRows(2, 1, 1, 1, -1, -1, 1, 1, 1), false},
		{wholeRows(3, 1, 3, -1, -2, -1, 4, -3, -2, -3, 5), true},
		{wholeRows(3, 1, 3, -2, -1, -1, 4, -3, -2, -3, 5), false},
		{wholeRows(3, 1, 3, -1, -2, -3, 4, -1, -2, -3, 5), false},
		{wholeRows(3, 1, 3, -1, -2, -1, 4, -3, -2, -3, 6), false},
		{wholeRows(3, 1, 3, -1, -2, -1, 5, -3, -2, -3, 5), false},
		{wholeRows(3, 1, 1, 1, -2, 1, 2, -3, -2, -3, 5), false},
		{wholeRows(3, 1, 1, -3, 2, -3, 6, -3, 2, -3, 1), false},
		{wholeRows(3, 1, 3, -1, -2, -1, -2, 3, -2, 3, -1), false},
		{wholeRows(3, 1, 2, -1, -1, -1, 1, 0, -1, 0, 1), true},
		{wholeRows(2, 1, billion, -billion, -billion, billion), true},
		{wholeRows(2, 1, billion+1, -billion-1, -billion-1, billion+1), false},
		{wholeRows(2, 1, topNum, -topNum, -topNum, topNum), false},
	}
	for _, c := range cases {
		if got := impl.IsResponse(c.m); got != c.want {
			t.Errorf("IsResponse(%v) is %v", c.m, got)
		}
	}
}

// Rows whose exact sum is 0 count only if the fractions on the way are valid,
// from left to right.
func TestIsResponseSumsOnTheWay(t *testing.T) {
	fair := ratio(999999997, 1500000000)
	third, near, twice := ratio(2, 3), ratio(1, 500000000), ratio(1, 250000000)
	minus := func(r impl.Ratio) impl.Ratio { return ratio(-r.N, r.D) }
	forwards := [][]impl.Ratio{{third, minus(fair), minus(near)}, {minus(fair), third, minus(near)}, {minus(near), minus(near), twice}}
	backwards := [][]impl.Ratio{{twice, minus(near), minus(near)}, {minus(near), third, minus(fair)}, {minus(near), minus(fair), third}}
	cases := []struct {
		m    [][]impl.Ratio
		want bool
	}{
		{wholeRows(2, billion, 1, -1, -1, 1), true},
		{wholeRows(2, billion+1, 1, -1, -1, 1), false},
		{wholeRows(2, topDiv, 1, -1, -1, 1), false},
		{wholeRows(3, 2*billion, 2, -1, -1, -1, 2, -1, -1, -1, 2), false},
		{wholeRows(3, billion, 2, -1, -1, -1, 2, -1, -1, -1, 2), true},
		{forwards, true},
		{backwards, false},
	}
	for _, c := range cases {
		if got := impl.IsResponse(c.m); got != c.want || reckonedIsResponse(c.m) != c.want {
			t.Errorf("IsResponse(%v) is %v", c.m, got)
		}
	}
}

// reckonedIsResponse follows the document with the other way to add fractions.
func reckonedIsResponse(m [][]impl.Ratio) bool {
	is := len(m) >= 1 && len(m) <= 5
	for _, row := range m {
		is = is && len(row) == len(m)
	}
	if !is {
		return false
	}
	for i, row := range m {
		sum := ratio(0, 1)
		for j, element := range row {
			is = is && isValid(element.N, element.D) && element == m[j][i]
			if i != j && is {
				is = exact(element).Sign() <= 0
			}
			sum = sumOperation.reckon(sum, element)
		}
		is = is && sum == ratio(0, 1)
	}
	return is
}

// All matrices of two rows with elements of a list, and all symmetric ones of
// three rows with small integers.
func TestIsResponseOfAllMatrices(t *testing.T) {
	accepted := 0
	check := func(m [][]impl.Ratio) {
		want := reckonedIsResponse(m)
		if impl.IsResponse(m) != want {
			t.Fatalf("IsResponse(%v) is %v", m, !want)
		}
		if want {
			accepted++
		}
	}
	list := ratiosOf(0, 1, 1, 1, -1, 1, 1, 2, -1, 2, topNum, 1, -topNum, 1, 1, topDiv, -1, topDiv, 0, 0, 2, 4, -2, 4, 1, -1, math.MinInt, 1)
	for _, a := range list {
		for _, b := range list {
			for _, c := range list {
				for _, d := range list {
					check([][]impl.Ratio{{a, b}, {c, d}})
				}
			}
		}
	}
	for i := range 6 * 6 * 6 * 6 * 6 * 6 {
		e := func(place int) int { return i/place%6 - 3 }
		check(wholeRows(3, 2, e(1), e(6), e(36), e(6), e(216), e(1296), e(36), e(1296), e(7776)))
	}
	if accepted < 10 {
		t.Errorf("only %d matrices are accepted", accepted)
	}
}

// Responses in which one element, or it and the one across the diagonal, is
// replaced.
func TestIsResponseOfChangedResponses(t *testing.T) {
	for _, c := range responseCases() {
		for i := range c.want {
			for j := range c.want {
				for _, element := range append(badRatios(), ratiosOf(0, 1, 1, 1, -1, 1, -5, 3, 1, topDiv)...) {
					m := copyOfRatioRows(c.want)
					m[i][j] = element
					one := impl.IsResponse(m)
					if one != reckonedIsResponse(m) || one != (element == c.want[i][j]) {
						t.Errorf("IsResponse(%v) is %v", m, one)
					}
					m[j][i] = element
					if two := impl.IsResponse(m); two != reckonedIsResponse(m) || two != one && i == j {
						t.Errorf("IsResponse(%v) is %v", m, two)
					}
				}
			}
		}
	}
}

func TestSameResponse(t *testing.T) {
	unequal := [][][]impl.Ratio{
		nil, {nil}, {nil, nil}, {nil, ratiosOf(0, 1)}, {ratiosOf(0, 1), nil}, {ratiosOf(0, 1)}, {ratiosOf(0, 2)}, {ratiosOf(0, 0)}, {ratiosOf(0, 1), ratiosOf(0, 1)},
		{ratiosOf(0, 1, 0, 1)}, {ratiosOf(0, 1, 0, 1), nil}, {ratiosOf(0, 1, 0, 1), ratiosOf(0, 1)},
		ratioRows(2, 1, 2, 1, 2, 1, 2, 1, 2), ratioRows(2, 2, 4, 1, 2, 1, 2, 1, 2), ratioRows(2, 1, 2, 2, 4, 1, 2, 1, 2), ratioRows(2, 1, 2, 1, 2, 2, 4, 1, 2), ratioRows(2, 1, 2, 1, 2, 1, 2, 2, 4), ratioRows(2, 1, 2, 1, 2, 1, 2, -1, -2),
		ratioRows(1, math.MinInt, math.MaxInt), ratioRows(1, math.MaxInt, math.MinInt), ratioRows(1, 1, 0), ratioRows(1, 2, 0), ratioRows(1, -1, 0),
		wholeRows(3, 1, 3, -1, -2, -1, 4, -3, -2, -3, 5), wholeRows(3, 1, 3, -1, -2, -1, 4, -3, -2, -3, 6), wholeRows(3, 2, 3, -1, -2, -1, 4, -3, -2, -3, 5),
		ratioRows(6, slices.Repeat([]int{1, 1}, 36)...), ratioRows(6, append(slices.Repeat([]int{1, 1}, 35), 1, 2)...),
	}
	for i, a := range unequal {
		for j, b := range unequal {
			if got := impl.SameResponse(a, copyOfRatioRows(b)); got != (i == j) {
				t.Errorf("SameResponse(%v, %v) is %v", a, b, got)
			}
		}
	}
	if !impl.SameResponse(nil, [][]impl.Ratio{}) || !impl.SameResponse([][]impl.Ratio{nil}, [][]impl.Ratio{{}}) {
		t.Error("a nil slice is not equal to an empty one")
	}
	for _, bad := range badRatios() {
		for _, r := range append(badRatios(), ratio(1, 2), ratio(0, 1)) {
			if got := impl.SameResponse([][]impl.Ratio{{ratio(1, 2), bad}}, [][]impl.Ratio{{ratio(1, 2), r}}); got != (bad == r) {
				t.Errorf("SameResponse is %v for %v and %v", got, bad, r)
			}
		}
	}
}

func TestAreAlike(t *testing.T) {
	divider := netOf(3, 2, 1, 0, 2, 1, 1, 2, 2)
	cases := []struct {
		a, b impl.Net
		want bool
	}{
		{netOf(1, 1, 1), netOf(1, 1, 1), true},
		{netOf(1, 1, 1), completeNet(5, 1, 1000), true},
		{netOf(1, 1, 1), netOf(2, 2, 1, 0, 1, 1), false},
		{netOf(2, 2, 1, 0, 1, 1), netOf(2, 1, 1, 0, 1, 1), false},
		{netOf(2, 2, 1, 0, 1, 1), netOf(2, 2, 5, 0, 1, 5), true},
		{netOf(2, 2, 1, 0, 1, 1), netOf(2, 2, 5, 0, 1, 4), false},
		{divider, netOf(2, 2, 3, 0, 1, 2), true},
		{divider, netOf(2, 2, 30, 0, 1, 20), true},
		{divider, netOf(2, 2, 2, 0, 1, 3), false},
		{divider, netOf(3, 2, 1, 0, 2, 2, 1, 2, 1), true},
		{divider, netOf(3, 3, 1, 0, 2, 1, 1, 2, 2), false},
		{divider, netOf(5, 2, 1, 0, 2, 2, 1, 2, 1, 2, 3, 200, 3, 4, 1), true},
		{netOf(4, 3, 1, 0, 3, 1, 1, 3, 2, 2, 3, 3), netOf(3, 3, 6, 0, 1, 2, 0, 2, 3, 1, 2, 6), true},
		{netOf(4, 3, 1, 0, 3, 1, 1, 3, 2, 2, 3, 3), netOf(3, 3, 6, 0, 1, 2, 0, 2, 6, 1, 2, 3), false},
		{netOf(4, 2, 1, 0, 2, 1, 0, 3, 1, 1, 2, 1, 1, 3, 1, 2, 3, 5), netOf(4, 2, 1, 0, 2, 1, 0, 3, 1, 1, 2, 1, 1, 3, 1, 2, 3, 200), true},
		{netOf(4, 2, 1, 0, 2, 1, 0, 3, 1, 1, 2, 1, 1, 3, 2, 2, 3, 5), netOf(4, 2, 1, 0, 2, 1, 0, 3, 1, 1, 2, 1, 1, 3, 2, 2, 3, 6), false},
		{withEnds(sameWeights(5, 200), 2), netOf(3, 2, 1, 0, 1, 200, 0, 2, 200, 1, 2, 200), false},
		{withEnds(sameWeights(5, 200), 2), netOf(5, 2, 1, 0, 1, 200, 0, 2, 200, 0, 3, 200, 0, 4, 200, 1, 2, 200, 1, 3, 200, 1, 4, 200), true},
		{divider, netOf(3, 2, 0, 0, 2, 1, 1, 2, 2), false},
		{impl.Net{}, impl.Net{}, false},
		{divider, impl.Net{}, false},
	}
	for _, c := range cases {
		if impl.AreAlike(c.a, c.b) != c.want || impl.AreAlike(c.b, c.a) != c.want {
			t.Errorf("AreAlike(%v, %v) is not %v in both orders", c.a, c.b, c.want)
		}
	}
}

// fewWeights gives all valid networks of up to three nodes with some weights.
func fewWeights() []impl.Net {
	weights := []int{0, 1, 2, 6}
	var nets []impl.Net
	for nodes := 1; nodes <= 3; nodes++ {
		for ends := 1; ends <= nodes; ends++ {
			for i := range 64 {
				table := weightTable{{0, weights[i%4], weights[i/4%4]}, {0, 0, weights[i/16]}}
				for a := range nodes {
					for b := range a {
						table[a][b] = table[b][a]
					}
				}
				if n := table.net(nodes, ends, i%2+1); isValidNet(n) {
					nets = append(nets, n)
				}
			}
		}
	}
	return nets
}

// Promise 3: networks are alike if and only if their responses are the same,
// and then no potentials tell them apart.
func TestAlikeNetsCannotBeToldApart(t *testing.T) {
	nets := fewWeights()
	var responses []string
	for _, n := range nets {
		responses = append(responses, fmt.Sprint(reductionOf(n).response()))
	}
	alike := 0
	for i, a := range nets {
		for j, b := range nets[:i+1] {
			want := responses[i] == responses[j]
			if impl.AreAlike(a, b) != want {
				t.Fatalf("AreAlike(%v, %v) is %v", a, b, !want)
			}
			if !want || a.Nodes == b.Nodes {
				continue
			}
			alike++
			for _, volts := range voltLists(a.Ends) {
				first, firstOk := impl.CurrentsFor(a, volts)
				second, secondOk := impl.CurrentsFor(b, volts)
				power, powerOk := impl.PowerFor(a, volts)
				other, otherOk := impl.PowerFor(b, volts)
				if !firstOk || !secondOk || !slices.Equal(first, second) || !powerOk || !otherOk || power != other {
					t.Fatalf("%v tell %v and %v apart", volts, a, b)
				}
			}
		}
	}
	if alike < 1000 {
		t.Errorf("only %d pairs of networks with different nodes are alike", alike)
	}
}

// Promise 1: exchanged twice, nodes are as before; inner nodes can be exchanged
// without any change of the response, and with terminals its lines change
// places.
func TestExchangedNodes(t *testing.T) {
	for n := range netsOfAllEnds() {
		m, _ := impl.ResponseOf(n)
		for a := range n.Nodes {
			for b := range a {
				swapped, _ := impl.SwapNodes(n, a, b)
				back, _ := impl.SwapNodes(swapped, a, b)
				if !impl.SameNet(n, back) || !impl.AreAlike(n, back) {
					t.Fatalf("exchanged twice, %v is %v", n, back)
				}
				got, ok := impl.ResponseOf(swapped)
				if a < n.Ends || b >= n.Ends {
					if !ok || !equalRatioRows(got, exchangedLines(m, a, b)) || impl.AreAlike(n, swapped) != equalRatioRows(got, m) {
						t.Fatalf("ResponseOf(%v) = %v, %v, with %d and %d exchanged: %v", n, m, ok, a, b, got)
					}
				}
			}
		}
	}
}

func exchangedLines(m [][]impl.Ratio, a int, b int) [][]impl.Ratio {
	m = copyOfRatioRows(m)
	if max(a, b) >= len(m) {
		return m
	}
	m[a], m[b] = m[b], m[a]
	for _, row := range m {
		row[a], row[b] = row[b], row[a]
	}
	return m
}

// Promise 1: divided by a common divisor, a network has the same response.
func TestResponseOfDividedNets(t *testing.T) {
	for n := range netsOfAllEnds() {
		lowest, _ := impl.CanonNet(n)
		for _, factor := range []int{1, 2, 3, 5} {
			multiple := copyOf(lowest)
			multiple.Scale *= factor
			for i := range multiple.Wires {
				multiple.Wires[i].W *= factor
			}
			divided, ok := impl.CanonNet(multiple)
			if !ok {
				continue
			}
			want, _ := impl.ResponseOf(n)
			got, _ := impl.ResponseOf(multiple)
			if !impl.AreAlike(multiple, divided) || !impl.AreAlike(divided, n) || !equalRatioRows(got, want) {
				t.Fatalf("%v, %v and %v are not alike", n, multiple, divided)
			}
		}
	}
}

func ratioRowsWithSpare(m [][]impl.Ratio) [][]impl.Ratio {
	rows := slices.Concat(m, [][]impl.Ratio{ratiosOf(81, 82), nil})
	for i := range rows {
		rows[i] = ratiosWithSpare(rows[i])
	}
	return rows[:len(m)]
}

// The text of a matrix with all its capacity, also of its rows.
func wholeRatioText(m [][]impl.Ratio) string {
	text := fmt.Sprint(len(m))
	for _, row := range m[:cap(m)] {
		text += fmt.Sprint(len(row), row[:cap(row)])
	}
	return text
}

func TestMatricesAreKept(t *testing.T) {
	matrices := [][][]impl.Ratio{nil, {nil}, {ratiosOf(0, 1), nil}, ratioRows(1, 2, 4), ratioRows(6, slices.Repeat([]int{0, 1}, 36)...), wholeRows(2, 1, 1, -1, -2, 2)}
	for _, c := range responseCases() {
		matrices = append(matrices, c.want)
	}
	for _, plain := range matrices {
		m, other := ratioRowsWithSpare(plain), ratioRowsWithSpare(plain)
		before := wholeRatioText(m)
		first, same := impl.IsResponse(m), impl.SameResponse(m, other)
		impl.SameResponse(m, ratioRows(1, 1, 1))
		if wholeRatioText(m) != before || wholeRatioText(other) != before {
			t.Errorf("%s is changed to %s or %s", before, wholeRatioText(m), wholeRatioText(other))
		}
		if impl.IsResponse(plain) != first || !same {
			t.Errorf("IsResponse(%v) depends on more than its argument", plain)
		}
	}
}

func TestResponseKeepsItsArguments(t *testing.T) {
	for _, n := range append(goodNets(), badNets()...) {
		spare := withSpare(n)
		all := spare.Wires[:cap(spare.Wires)]
		before := slices.Clone(all)
		impl.ResponseOf(spare)
		impl.AreAlike(spare, spare)
		for length := range impl.MaxNodes + 2 {
			volts := listWithSpare([]int{100, -100, 3, -7, 50, 9}[:length])
			voltsBefore := wholeText(volts)
			currents, ok := impl.CurrentsFor(spare, volts)
			power, powerOk := impl.PowerFor(spare, volts)
			if wholeText(volts) != voltsBefore || ok != powerOk {
				t.Errorf("%s is changed to %s, or only one of %v and %v exists", voltsBefore, wholeText(volts), ok, powerOk)
			}
			again, _ := impl.CurrentsFor(n, slices.Clone(volts))
			if other, _ := impl.PowerFor(n, slices.Clone(volts)); other != power || !slices.Equal(again, currents) {
				t.Errorf("the currents for %v in %.400v are once %v and once %v", volts, n, currents, again)
			}
		}
		if !slices.Equal(all, before) {
			t.Errorf("%.400v is changed to %.400v", before, all)
		}
		checkKept(t, n, netCall{"ResponseNet", impl.ResponseNet})
	}
}

// Each row of a result is filled up to its capacity, which must change no
// other row, no other result and no argument.
func TestResponseOfIsNew(t *testing.T) {
	for _, n := range goodNets() {
		before := copyOf(n)
		for i := range n.Ends {
			first, _ := impl.ResponseOf(n)
			second, _ := impl.ResponseOf(n)
			rest := copyOfRatioRows(second)
			row := first[i][:cap(first[i])]
			for j := range row {
				row[j] = ratio(77, 78)
			}
			if !equalRatioRows(second, rest) || !equalNets(n, before) {
				t.Fatalf("ResponseOf(%v) shares memory", before)
			}
			if !equalRatioRows(slices.Delete(first, i, i+1), slices.Delete(rest, i, i+1)) {
				t.Fatalf("two rows of ResponseOf(%v) share memory", n)
			}
		}
	}
}

func TestCurrentsForIsNew(t *testing.T) {
	for _, n := range goodNets() {
		volts := listWithSpare([]int{100, -100, 3, -7, 50}[:n.Ends])
		before := wholeText(volts)
		first, _ := impl.CurrentsFor(n, volts)
		second, _ := impl.CurrentsFor(n, volts)
		rest := slices.Clone(second)
		first = first[:cap(first)]
		for i := range first {
			first[i] = ratio(77, 78)
		}
		if !slices.Equal(second, rest) || wholeText(volts) != before {
			t.Errorf("CurrentsFor(%v, %v) shares memory", n, volts)
		}
	}
}

// Results do not depend on the order in which rows are calculated, nor on other
// calls at the same time.
func TestResponsesAtTheSameTime(t *testing.T) {
	n := completeNet(5, 4, 7)
	want := reductionOf(n).response()
	volts := []int{100, -3, 20, -99}
	currents, _ := impl.CurrentsFor(n, volts)
	var calls sync.WaitGroup
	for range 50 {
		calls.Go(func() {
			for range 20 {
				if got, ok := impl.ResponseOf(n); !ok || !equalRatioRows(got, want) {
					t.Errorf("ResponseOf(%v) = %v, %v, not %v", n, got, ok, want)
				}
				if got, ok := impl.CurrentsFor(n, volts); !ok || !slices.Equal(got, currents) {
					t.Errorf("CurrentsFor(%v, %v) is once %v and once %v", n, volts, currents, got)
				}
			}
		})
	}
	calls.Wait()
}
