package tests

import (
	"cmp"
	"fmt"
	"iter"
	"math"
	"math/big"
	"slices"
	"testing"

	"loop.example/g00859/impl"
)

// rimByHand goes around the rim once, from the first terminal of p on, and asks
// whether all others are met in their order.
func rimByHand(k int, p []int, q []int) bool {
	if k < 1 || k > 5 || len(p) != len(q) || len(p) == 0 {
		return false
	}
	ring := slices.Clone(q)
	slices.Reverse(ring)
	ring = slices.Concat(p, ring)
	if ring[0] < 0 || ring[0] >= k {
		return false
	}
	met := 0
	for step := range k {
		if met < len(ring) && ring[met] == (ring[0]+step)%k {
			met++
		}
	}
	return met == len(ring)
}

// pairsByHand takes each set of an even number of terminals, reads it from each
// of its terminals on and sorts what it finds.
func pairsByHand(k int) [][][]int {
	var pairs [][][]int
	for _, ring := range ascendingLists(k) {
		half := len(ring) / 2
		if len(ring)%2 == 1 {
			continue
		}
		for range ring {
			q := slices.Clone(ring[half:])
			slices.Reverse(q)
			pairs = append(pairs, [][]int{slices.Clone(ring[:half]), q})
			ring = slices.Concat(ring[1:], ring[:1])
		}
	}
	slices.SortFunc(pairs, comparePairs)
	return pairs
}

func comparePairs(a [][]int, b [][]int) int {
	return cmp.Or(cmp.Compare(len(a[0]), len(b[0])), slices.Compare(a[0], b[0]), slices.Compare(a[1], b[1]))
}

func equalPairs(a [][][]int, b [][][]int) bool { return slices.EqualFunc(a, b, equalRows) }

func copyOfPairs(pairs [][][]int) [][][]int {
	var all [][][]int
	for _, pair := range pairs {
		all = append(all, copyOfRows(pair))
	}
	return all
}

func TestIsCircular(t *testing.T) {
	cases := []struct {
		k    int
		p, q []int
		want bool
	}{
		{2, []int{0}, []int{1}, true},
		{2, []int{1}, []int{0}, true},
		{3, []int{2}, []int{1}, true},
		{4, []int{0}, []int{2}, true},
		{5, []int{4}, []int{0}, true},
		{5, []int{0}, []int{4}, true},
		// read from each of the four terminals on
		{4, []int{0, 1}, []int{3, 2}, true},
		{4, []int{1, 2}, []int{0, 3}, true},
		{4, []int{2, 3}, []int{1, 0}, true},
		{4, []int{3, 0}, []int{2, 1}, true},
		{5, []int{0, 2}, []int{4, 3}, true},
		{5, []int{2, 3}, []int{0, 4}, true},
		{5, []int{3, 4}, []int{2, 0}, true},
		{5, []int{4, 0}, []int{3, 2}, true},
		{5, []int{4, 1}, []int{3, 2}, true},
		// once around is not enough
		{4, []int{0, 1}, []int{2, 3}, false},
		{4, []int{0, 2}, []int{1, 3}, false},
		{4, []int{0, 2}, []int{3, 1}, false},
		{4, []int{0, 3}, []int{2, 1}, false},
		{4, []int{0, 3}, []int{1, 2}, false},
		{4, []int{1, 0}, []int{3, 2}, false},
		{4, []int{1, 0}, []int{2, 3}, false},
		{4, []int{3, 2}, []int{0, 1}, false},
		{4, []int{3, 1}, []int{2, 0}, false},
		{5, []int{0, 3}, []int{4, 2}, false},
		{5, []int{4, 2}, []int{0, 3}, false},
		{5, []int{2, 1}, []int{3, 4}, false},
		{5, []int{4, 3}, []int{1, 2}, false},
	}
	for _, c := range cases {
		if got := impl.IsCircular(c.k, c.p, c.q); got != c.want {
			t.Errorf("IsCircular(%d, %v, %v) is %v", c.k, c.p, c.q, got)
		}
	}
}

// Lists that are no pair for any number of terminals.
func noPairs() [][][]int {
	return [][][]int{
		{nil, nil}, {{}, {}}, {nil, {}}, {{}, nil}, {nil, {0}}, {{0}, nil}, {{}, {1}}, {{1}, {}},
		{{0, 1}, {3}}, {{0}, {3, 2}}, {{0, 1}, {2}}, {{0, 1, 2}, {4, 3}}, {{0, 1}, {4, 3, 2}}, {{0, 1, 2, 3}, nil}, {{0, 1}, nil},
		{{0}, {0}}, {{4}, {4}}, {{0, 0}, {1, 1}}, {{0, 0}, {2, 1}}, {{0, 1}, {2, 2}}, {{0, 1}, {1, 2}}, {{0, 1}, {2, 1}}, {{0, 1}, {0, 2}}, {{0, 1}, {2, 0}}, {{0, 1}, {1, 0}}, {{0, 1}, {0, 1}},
		{{-1}, {0}}, {{0}, {-1}}, {{5}, {0}}, {{0}, {5}}, {{0}, {6}}, {{-2}, {-1}}, {{-1, 0}, {2, 1}}, {{0, 1}, {2, -1}}, {{0, 1}, {5, 2}}, {{3, 4}, {1, 5}}, {{5, 6}, {8, 7}},
		{{0}, {math.MaxInt}}, {{math.MaxInt}, {0}}, {{math.MinInt}, {0}}, {{0}, {math.MinInt}}, {{0, 1}, {math.MaxInt, 2}}, {{math.MinInt, 1}, {3, 2}},
		{{0, 1, 2}, {5, 4, 3}}, {{0, 1, 2}, {0, 4, 3}}, {{0, 1, 2}, {4, 4, 3}}, {{2, 3, 4}, {1, 0, 5}}, {{0, 1, 2, 3, 4}, {4, 3, 2, 1, 0}}, {{0, 1, 2, 3, 4}, {9, 8, 7, 6, 5}},
		make([][]int, 2), {make([]int, 1000), make([]int, 1000)},
	}
}

func TestIsCircularNotValid(t *testing.T) {
	for k := -3; k <= 9; k++ {
		for _, pair := range noPairs() {
			if impl.IsCircular(k, pair[0], pair[1]) {
				t.Errorf("IsCircular(%d, %.80v, %.80v) is true", k, pair[0], pair[1])
			}
		}
	}
	for _, k := range []int{math.MinInt, math.MinInt + 4, -5, -4, -1, 0, 1, 6, 7, 8, 1 << 32, 1<<32 + 4, math.MaxInt - 1, math.MaxInt} {
		for _, pair := range slices.Concat(pairsByHand(5), [][][]int{{{0}, {5}}, {{0, 1, 2}, {5, 4, 3}}, {{1, 2, 3}, {0, 5, 4}}}) {
			if impl.IsCircular(k, pair[0], pair[1]) {
				t.Errorf("IsCircular(%d, %v, %v) is true", k, pair[0], pair[1])
			}
		}
	}
}

// Of all lists of up to three elements around the terminals of every number,
// those that are met on one way around the rim.
func TestIsCircularOfAllLists(t *testing.T) {
	found := 0
	for k := -2; k <= 7; k++ {
		lists := listsOf(3, -1, max(k, 1)+1)
		for _, p := range lists {
			for _, q := range lists {
				want := rimByHand(k, p, q)
				if got := impl.IsCircular(k, p, q); got != want {
					t.Fatalf("IsCircular(%d, %v, %v) is %v", k, p, q, got)
				}
				if want {
					found++
				}
			}
		}
	}
	if found != 2+6+16+40 {
		t.Errorf("%d pairs are circular", found)
	}
}

func TestCircularPairs(t *testing.T) {
	three := "[[0] [1]] [[0] [2]] [[1] [0]] [[1] [2]] [[2] [0]] [[2] [1]]"
	four := "[[0] [1]] [[0] [2]] [[0] [3]] [[1] [0]] [[1] [2]] [[1] [3]] [[2] [0]] [[2] [1]] [[2] [3]] [[3] [0]] [[3] [1]] [[3] [2]] " +
		"[[0 1] [3 2]] [[1 2] [0 3]] [[2 3] [1 0]] [[3 0] [2 1]]"
	five := "[[0] [1]] [[0] [2]] [[0] [3]] [[0] [4]] [[1] [0]] [[1] [2]] [[1] [3]] [[1] [4]] [[2] [0]] [[2] [1]] [[2] [3]] [[2] [4]] " +
		"[[3] [0]] [[3] [1]] [[3] [2]] [[3] [4]] [[4] [0]] [[4] [1]] [[4] [2]] [[4] [3]] " +
		"[[0 1] [3 2]] [[0 1] [4 2]] [[0 1] [4 3]] [[0 2] [4 3]] [[1 2] [0 3]] [[1 2] [0 4]] [[1 2] [4 3]] [[1 3] [0 4]] " +
		"[[2 3] [0 4]] [[2 3] [1 0]] [[2 3] [1 4]] [[2 4] [1 0]] [[3 0] [2 1]] [[3 4] [1 0]] [[3 4] [2 0]] [[3 4] [2 1]] " +
		"[[4 0] [2 1]] [[4 0] [3 1]] [[4 0] [3 2]] [[4 1] [3 2]]"
	for i, want := range []string{"", "[[0] [1]] [[1] [0]]", three, four, five} {
		if got := fmt.Sprint(impl.CircularPairs(i + 1)); got != "["+want+"]" {
			t.Errorf("CircularPairs(%d) = %s", i+1, got)
		}
	}
	for _, k := range []int{math.MinInt, math.MinInt + 4, -5, -2, -1, 0, 6, 7, 10, 1 << 32, 1<<32 + 3, math.MaxInt - 1, math.MaxInt} {
		if got := impl.CircularPairs(k); len(got) != 0 {
			t.Errorf("CircularPairs(%d) = %v", k, got)
		}
	}
}

// Each pair follows the one before it, is one for which IsCircular is true, and
// none is left out.
func TestOrderOfCircularPairs(t *testing.T) {
	for k := 1; k <= impl.MaxNodes; k++ {
		got := impl.CircularPairs(k)
		for i, pair := range got {
			if i > 0 && comparePairs(got[i-1], pair) >= 0 || len(pair) != 2 || !impl.IsCircular(k, pair[0], pair[1]) {
				t.Errorf("%v is in CircularPairs(%d), after the first %d", pair, k, i)
			}
		}
		if want := pairsByHand(k); !equalPairs(got, want) {
			t.Errorf("CircularPairs(%d) = %v, not %v", k, got, want)
		}
	}
}

// Each list, each pair and all of them are filled up to their capacity, which
// must change no other list and no other result.
func TestCircularPairsAreNew(t *testing.T) {
	for k := 2; k <= impl.MaxNodes; k++ {
		want := pairsByHand(k)
		for i := range want {
			for side := range 2 {
				first, second := impl.CircularPairs(k), impl.CircularPairs(k)
				list := first[i][side][:cap(first[i][side])]
				for j := range list {
					list[j] = 77
				}
				first[i][side] = want[i][side]
				if !equalPairs(first, want) || !equalPairs(second, want) {
					t.Fatalf("list %d of pair %d of CircularPairs(%d) shares memory", side, i, k)
				}
			}
			first, second := impl.CircularPairs(k), impl.CircularPairs(k)
			clear(first[i][:cap(first[i])])
			first[i] = want[i]
			if !equalPairs(first, want) || !equalPairs(second, want) {
				t.Fatalf("pair %d of CircularPairs(%d) shares memory", i, k)
			}
		}
		first, second := impl.CircularPairs(k), impl.CircularPairs(k)
		clear(first[:cap(first)])
		if third := impl.CircularPairs(k); !equalPairs(second, want) || !equalPairs(third, want) {
			t.Errorf("CircularPairs(%d) shares memory", k)
		}
	}
}

// exactMinor adds the products of all elements, one in each row and each
// column, with the sign of their order. There are at most two rows.
func exactMinor(m [][]impl.Ratio, p []int, q []int) *big.Rat {
	element := func(i int, j int) *big.Rat { return new(big.Rat).Neg(exact(m[p[i]][q[j]])) }
	if len(p) == 1 {
		return element(0, 0)
	}
	straight := new(big.Rat).Mul(element(0, 0), element(1, 1))
	return straight.Sub(straight, new(big.Rat).Mul(element(0, 1), element(1, 0)))
}

func TestCircularMinor(t *testing.T) {
	three := netOf(3, 3, 1, 0, 1, 1, 0, 2, 2, 1, 2, 3)
	ring := netOf(4, 4, 2, 0, 1, 1, 0, 3, 2, 1, 2, 3, 2, 3, 5)
	cross := netOf(4, 4, 1, 0, 1, 1, 0, 2, 2, 1, 3, 3)
	star := netOf(5, 4, 30, 0, 4, 10, 1, 4, 20, 2, 4, 30, 3, 4, 40)
	wheel := netOf(5, 4, 1, 0, 1, 1, 0, 3, 1, 0, 4, 1, 1, 2, 1, 1, 4, 1, 2, 3, 1, 2, 4, 1, 3, 4, 1)
	cases := []struct {
		n    impl.Net
		p, q []int
		want impl.Ratio
	}{
		{netOf(2, 2, 1, 0, 1, 1), []int{0}, []int{1}, ratio(1, 1)},
		{netOf(2, 2, 1000, 0, 1, 200), []int{1}, []int{0}, ratio(1, 5)},
		{netOf(3, 2, 1, 0, 2, 1, 1, 2, 2), []int{0}, []int{1}, ratio(2, 3)},
		{three, []int{0}, []int{1}, ratio(1, 1)}, {three, []int{0}, []int{2}, ratio(2, 1)}, {three, []int{2}, []int{0}, ratio(2, 1)}, {three, []int{2}, []int{1}, ratio(3, 1)},
		{withScale(three, 6), []int{1}, []int{2}, ratio(1, 2)},
		{netOf(3, 3, 1, 0, 1, 5, 1, 2, 7), []int{0}, []int{2}, ratio(0, 1)},
		{ring, []int{0}, []int{2}, ratio(0, 1)}, {ring, []int{3}, []int{0}, ratio(1, 1)}, {ring, []int{3}, []int{2}, ratio(5, 2)},
		{ring, []int{0, 1}, []int{3, 2}, ratio(3, 2)}, {ring, []int{1, 2}, []int{0, 3}, ratio(5, 4)}, {ring, []int{2, 3}, []int{1, 0}, ratio(3, 2)}, {ring, []int{3, 0}, []int{2, 1}, ratio(5, 4)},
		{cross, []int{0, 1}, []int{3, 2}, ratio(-6, 1)}, {cross, []int{1, 2}, []int{0, 3}, ratio(-6, 1)}, {withScale(cross, 6), []int{3, 0}, []int{2, 1}, ratio(-1, 6)},
		{completeNet(4, 4, 1), []int{0, 1}, []int{3, 2}, ratio(2, 1)}, {completeNet(4, 4, 1), []int{1, 2}, []int{0, 3}, ratio(-4, 1)},
		{completeNet(4, 4, 12), []int{2, 3}, []int{1, 0}, ratio(1, 72)}, {completeNet(4, 4, 12), []int{3, 0}, []int{2, 1}, ratio(-1, 36)},
		{star, []int{0}, []int{3}, ratio(2, 15)}, {star, []int{0, 1}, []int{3, 2}, ratio(0, 1)}, {star, []int{1, 2}, []int{0, 3}, ratio(0, 1)},
		{wheel, []int{0}, []int{2}, ratio(1, 4)}, {wheel, []int{0}, []int{1}, ratio(5, 4)}, {wheel, []int{0, 1}, []int{3, 2}, ratio(3, 2)}, {wheel, []int{3, 0}, []int{2, 1}, ratio(3, 2)},
		{completeNet(5, 5, 1), []int{0}, []int{3}, ratio(3, 1)}, {completeNet(5, 5, 1), []int{0, 2}, []int{4, 3}, ratio(5, 1)}, {completeNet(5, 5, 1), []int{1, 3}, []int{0, 4}, ratio(-11, 1)},
		{withEnds(sameWeights(5, 7), 5), []int{4, 1}, []int{3, 2}, ratio(0, 1)},
	}
	for _, c := range cases {
		if got, ok := impl.CircularMinor(c.n, c.p, c.q); !ok || got != c.want {
			t.Errorf("CircularMinor(%v, %v, %v) = %v, %v", c.n, c.p, c.q, got, ok)
		}
	}
}

// checkMinors holds all circular minors of a valid network against those of
// its response that is reckoned in the other way, and returns the least one.
func checkMinors(t *testing.T, n impl.Net) *big.Rat {
	t.Helper()
	m, least := reductionOf(n).response(), new(big.Rat)
	for _, pair := range impl.CircularPairs(n.Ends) {
		want := exactMinor(m, pair[0], pair[1])
		if got, ok := impl.CircularMinor(n, pair[0], pair[1]); !ok || got != asRatio(want) {
			t.Fatalf("CircularMinor(%v, %v, %v) = %v, %v, not %v", n, pair[0], pair[1], got, ok, want)
		}
		if want.Cmp(least) < 0 {
			least = want
		}
	}
	return least
}

func TestCircularMinorsOfAllNets(t *testing.T) {
	for n := range netsOfAllEnds() {
		checkMinors(t, n)
	}
}

// The greatest terms: every minor is still a valid fraction.
func TestCircularMinorsOfGreatestTerms(t *testing.T) {
	for n := range greatestNets() {
		checkMinors(t, n)
	}
}

func checkNoMinor(t *testing.T, n impl.Net, p []int, q []int) {
	t.Helper()
	if got, ok := impl.CircularMinor(n, p, q); ok || got != (impl.Ratio{}) {
		t.Errorf("CircularMinor(%.400v, %.80v, %.80v) = %v, %v", n, p, q, got, ok)
	}
}

// Lists that are not circular, also those that are so for all nodes but not for
// the terminals alone.
func TestCircularMinorOfOtherLists(t *testing.T) {
	for _, n := range goodNets() {
		for _, pair := range noPairs() {
			checkNoMinor(t, n, pair[0], pair[1])
		}
		for k := n.Ends + 1; k <= impl.MaxNodes; k++ {
			for _, pair := range pairsByHand(k) {
				if !rimByHand(n.Ends, pair[0], pair[1]) {
					checkNoMinor(t, n, pair[0], pair[1])
				}
			}
		}
	}
	for ends := 1; ends <= 5; ends++ {
		n := completeNet(5, ends, 7)
		for _, p := range listsOf(2, -1, 6) {
			for _, q := range listsOf(2, -1, 6) {
				if _, ok := impl.CircularMinor(n, p, q); ok != rimByHand(ends, p, q) {
					t.Errorf("CircularMinor(%v, %v, %v) is %v", n, p, q, ok)
				}
			}
		}
	}
}

func TestCircularMinorOfNetsNotValid(t *testing.T) {
	for _, n := range badNets() {
		for _, pair := range append(pairsByHand(5), noPairs()...) {
			checkNoMinor(t, n, pair[0], pair[1])
		}
	}
	for n := range allNets() {
		if !isValidNet(n) {
			for k := 2; k <= n.Nodes; k++ {
				checkNoMinor(t, withEnds(n, k), []int{0}, []int{1})
			}
		}
	}
}

// weightMatrix has these conductances between its terminals: the first one and
// each of the others, the second one and each of those after it, and so on.
func weightMatrix(size int, conductances ...int) [][]int {
	m := filledRows(size, func(int, int) int { return 0 })
	next := 0
	for i := range m {
		for j := i + 1; j < size; j++ {
			conductance := conductances[next]
			m[i][j], m[j][i] = -conductance, -conductance
			m[i][i] += conductance
			m[j][j] += conductance
			next++
		}
	}
	return m
}

// weightMatrices gives all matrices of four terminals with conductances up to 3
// and of five with conductances up to 1, and others with small and with great
// conductances.
func weightMatrices() iter.Seq[[][]int] {
	seed := uint64(9)
	next := func(limit int) int {
		seed = seed*6364136223846793005 + 1442695040888963407
		return int(seed>>33) % limit
	}
	lists := [][]int{make([]int, 10)}
	for i := range 4096 {
		lists = append(lists, []int{i % 4, i / 4 % 4, i / 16 % 4, i / 64 % 4, i / 256 % 4, i / 1024})
	}
	for i := range 1024 {
		lists = append(lists, []int{i & 1, i >> 1 & 1, i >> 2 & 1, i >> 3 & 1, i >> 4 & 1, i >> 5 & 1, i >> 6 & 1, i >> 7 & 1, i >> 8 & 1, i >> 9})
	}
	for i := range 1000 {
		list := make([]int, 10)
		for j := range list {
			list[j] = next([]int{3, 6, 26, 251}[i%4])
		}
		lists = append(lists, list)
	}
	return func(yield func([][]int) bool) {
		for _, list := range lists {
			for size := 1; size <= 5; size++ {
				if wires := size * (size - 1) / 2; wires <= len(list) && (size >= 4 || list[0] > 1) && !yield(weightMatrix(size, list...)) {
					return
				}
			}
		}
	}
}

func TestIsWeightMatrix(t *testing.T) {
	for _, m := range [][][]int{
		{{0}}, {{0, 0}, {0, 0}}, {{1, -1}, {-1, 1}}, {{1000, -1000}, {-1000, 1000}}, {{999, -999}, {-999, 999}},
		weightMatrix(3, 1, 2, 3), weightMatrix(3, 0, 0, 0), weightMatrix(3, 0, 1000, 0), weightMatrix(3, 500, 500, 500), weightMatrix(3, 0, 0, 4), weightMatrix(3, 400, 600, 399),
		weightMatrix(4, 1, 1, 1, 1, 1, 1), weightMatrix(4, 0, 1, 0, 0, 1, 0), weightMatrix(4, 333, 333, 333, 333, 333, 333), weightMatrix(4, 1000, 0, 0, 0, 0, 1000),
		weightMatrix(5, 1, 2, 3, 4, 5, 6, 7, 8, 9, 10), weightMatrix(5, make([]int, 10)...), weightMatrix(5, slices.Repeat([]int{250}, 10)...),
	} {
		if !impl.IsWeightMatrix(m) {
			t.Errorf("IsWeightMatrix(%v) is false", m)
		}
	}
	for m := range weightMatrices() {
		if !impl.IsWeightMatrix(m) {
			t.Fatalf("IsWeightMatrix(%v) is false", m)
		}
	}
}

// Each of these breaks one condition of IsWeightMatrix, and some break several.
func badMatrices() [][][]int {
	return [][][]int{
		nil, {}, {nil}, {{}}, {nil, nil}, {{}, {}}, make([][]int, 5), make([][]int, 6), make([][]int, 1000),
		filledRows(6, func(int, int) int { return 0 }), weightMatrix(6, slices.Repeat([]int{1}, 15)...), weightMatrix(7, make([]int, 21)...), filledRows(6, func(int, int) int { return 0 })[:5],
		{{0, 0}}, {{0}, {0}}, {{1, -1}}, {{1, -1}, {-1}}, {{1}, {-1, 1}}, {{1, -1}, {-1, 1, 0}}, {{1, -1, 0}, {-1, 1}}, {{1, -1, 0}, {-1, 1, 0}}, {{1, -1}, {-1, 1}, {0, 0}}, {{1, -1}, nil}, {nil, {1, -1}}, {{1, -1}, {-1, 1}, nil},
		{{0, 0, 0}, {0, 0, 0}, {0, 0}}, {{0, 0, 0}, nil, {0, 0, 0}}, {{0, 0, 0, 0}, {0, 0, 0, 0}, {0, 0, 0, 0}},
		{{1}}, {{-1}}, {{1000}}, {{1001}}, {{math.MaxInt}}, {{math.MinInt}},
		{{1001, -1001}, {-1001, 1001}}, weightMatrix(3, 1, 1000, 0), weightMatrix(3, 0, 1001, 0), weightMatrix(3, 501, 500, 500), weightMatrix(5, slices.Repeat([]int{251}, 10)...), weightMatrix(4, 0, 0, 500, 0, 500, 1),
		{{math.MinInt, math.MinInt}, {math.MinInt, math.MinInt}}, {{math.MaxInt, -math.MaxInt}, {-math.MaxInt, math.MaxInt}}, {{1 << 32, -1 << 32}, {-1 << 32, 1 << 32}},
		{{1, -1, 0}, {0, 1, -1}, {-1, 0, 1}}, {{3, -2, -1}, {-1, 3, -2}, {-2, -1, 3}}, {{1, -1, 0}, {-1, 2, -1}, {-1, 0, 1}}, {{2, -1, -1, 0}, {0, 2, -1, -1}, {-1, 0, 2, -1}, {-1, -1, 0, 2}},
		{{-1, 1}, {1, -1}}, weightMatrix(3, 2, -1, 1), weightMatrix(3, 1, 1, -1), weightMatrix(4, 1, 1, 1, 1, 1, -1), weightMatrix(5, 1, 1, 1, 1, 1, 1, 1, 1, 1, -3), weightMatrix(3, -1000, 0, 0),
		{{1, -1}, {-1, 2}}, {{2, -1}, {-1, 1}}, {{0, -1}, {-1, 0}}, {{-1, -1}, {-1, -1}}, {{1, 0}, {0, 1}}, {{1, 0}, {0, 0}}, {{0, 0}, {0, 1}}, {{0, 0}, {0, -1}}, {{1, 1}, {1, 1}},
		{{3, -1, -2}, {-1, 4, -3}, {-2, -3, 6}}, {{3, -1, -2}, {-1, 4, -3}, {-2, -3, 4}}, {{4, -1, -2}, {-1, 3, -3}, {-2, -3, 5}}, {{1000, -1000, -1000}, {-1000, 1000, 0}, {-1000, 0, 1000}},
	}
}

func TestOtherMatricesThanWeights(t *testing.T) {
	for _, m := range badMatrices() {
		checkNoMatrix(t, m)
	}
}

func checkNoMatrix(t *testing.T, m [][]int) {
	t.Helper()
	if impl.IsWeightMatrix(m) || impl.IsPlanarMatrix(m) || len(impl.PlanarReason(m)) != 0 {
		t.Errorf("the matrix %.200v is accepted, or has a reason", m)
	}
	for _, pair := range slices.Concat(pairsByHand(4), noPairs()) {
		if got, ok := impl.MinorMatrix(m, pair[0], pair[1]); ok || got != 0 {
			t.Errorf("MinorMatrix(%.200v, %.80v, %.80v) = %d, %v", m, pair[0], pair[1], got, ok)
		}
	}
}

// A single element that is different, or two of them that keep the symmetry,
// break the sum of a row. With the diagonal adapted, only a positive element is
// not accepted.
func TestWeightMatricesChanged(t *testing.T) {
	for _, m := range [][][]int{{{0}}, {{1, -1}, {-1, 1}}, weightMatrix(3, 1, 2, 3), weightMatrix(4, 0, 1, 0, 0, 1, 0), weightMatrix(4, 1, 2, 3, 4, 5, 6), weightMatrix(5, 1, 2, 3, 4, 5, 6, 7, 8, 9, 10)} {
		for i := range m {
			for j := range m {
				for _, step := range []int{-1000, -3, -1, 1, 2, 1000, math.MaxInt, math.MinInt} {
					one := copyOfRows(m)
					one[i][j] += step
					checkNoMatrix(t, one)
					if i == j {
						continue
					}
					one[j][i] += step
					checkNoMatrix(t, one)
					one[i][i] -= step
					one[j][j] -= step
					fits := one[i][j] <= 0 && one[i][j] >= -1000 && max(one[i][i], one[j][j]) <= 1000
					if got := impl.IsWeightMatrix(one); got != fits {
						t.Errorf("IsWeightMatrix(%v) is %v", one, got)
					}
				}
			}
		}
	}
}

// negated is a matrix with all signs exchanged, and so its determinants need no
// other sign.
func negated(m [][]int) [][]int {
	return filledRows(len(m), func(i int, j int) int { return -m[i][j] })
}

func TestMinorMatrix(t *testing.T) {
	crossing, five := weightMatrix(4, 0, 1, 0, 0, 1, 0), weightMatrix(5, 1, 2, 3, 4, 5, 6, 7, 8, 9, 10)
	cases := []struct {
		m    [][]int
		p, q []int
		want int
	}{
		{weightMatrix(2, 7), []int{0}, []int{1}, 7},
		{weightMatrix(2, 1000), []int{1}, []int{0}, 1000},
		{weightMatrix(2, 0), []int{1}, []int{0}, 0},
		{weightMatrix(3, 1, 2, 3), []int{0}, []int{1}, 1},
		{weightMatrix(3, 1, 2, 3), []int{2}, []int{0}, 2},
		{weightMatrix(3, 1, 2, 3), []int{2}, []int{1}, 3},
		{crossing, []int{0}, []int{1}, 0},
		{crossing, []int{0}, []int{2}, 1},
		{crossing, []int{0, 1}, []int{3, 2}, -1},
		{crossing, []int{1, 2}, []int{0, 3}, -1},
		{crossing, []int{2, 3}, []int{1, 0}, -1},
		{crossing, []int{3, 0}, []int{2, 1}, -1},
		{weightMatrix(4, 1, 1, 1, 1, 1, 1), []int{0, 1}, []int{3, 2}, 0},
		{weightMatrix(4, 1, 2, 3, 4, 5, 6), []int{0, 1}, []int{3, 2}, 2},
		{weightMatrix(4, 1, 2, 3, 4, 5, 6), []int{3, 0}, []int{2, 1}, -4},
		{weightMatrix(4, 500, 0, 500, 500, 0, 500), []int{0, 1}, []int{3, 2}, 250000},
		{weightMatrix(4, 0, 1000, 0, 0, 1000, 0), []int{0, 1}, []int{3, 2}, -1000000},
		{five, []int{4}, []int{2}, 9},
		{five, []int{0, 2}, []int{4, 3}, 5},
		{five, []int{1, 3}, []int{0, 4}, -11},
		{five, []int{4, 1}, []int{3, 2}, -4},
	}
	for _, c := range cases {
		if got, ok := impl.MinorMatrix(c.m, c.p, c.q); !ok || got != c.want {
			t.Errorf("MinorMatrix(%v, %v, %v) = %d, %v", c.m, c.p, c.q, got, ok)
		}
	}
}

func TestMinorMatrixOfOtherLists(t *testing.T) {
	for _, m := range [][][]int{{{0}}, {{1, -1}, {-1, 1}}, weightMatrix(3, 1, 2, 3), weightMatrix(4, 0, 1, 0, 0, 1, 0), weightMatrix(4, 1, 2, 3, 4, 5, 6), weightMatrix(5, 1, 2, 3, 4, 5, 6, 7, 8, 9, 10)} {
		for _, pair := range noPairs() {
			if got, ok := impl.MinorMatrix(m, pair[0], pair[1]); ok || got != 0 {
				t.Errorf("MinorMatrix(%v, %.80v, %.80v) = %d, %v", m, pair[0], pair[1], got, ok)
			}
		}
		for _, p := range listsOf(2, -1, 6) {
			for _, q := range listsOf(2, -1, 6) {
				want, wanted := 0, rimByHand(len(m), p, q)
				if wanted {
					want = eliminated(negated(m), p, q)
				}
				if got, ok := impl.MinorMatrix(m, p, q); ok != wanted || got != want {
					t.Errorf("MinorMatrix(%v, %v, %v) = %d, %v", m, p, q, got, ok)
				}
			}
		}
	}
}

// crossingsByHand: of each four terminals, the conductances that cross have a
// product that is not greater than that of two opposite sides.
func crossingsByHand(m [][]int) bool {
	for _, four := range ascendingLists(len(m)) {
		if len(four) != 4 {
			continue
		}
		a, b, c, d := four[0], four[1], four[2], four[3]
		if m[a][c]*m[b][d] > min(m[a][b]*m[c][d], m[a][d]*m[b][c]) {
			return false
		}
	}
	return true
}

func TestPlanarReason(t *testing.T) {
	cases := []struct {
		m    [][]int
		want [][]int
	}{
		{[][]int{{0}}, nil},
		{weightMatrix(2, 5), nil},
		{weightMatrix(2, 0), nil},
		{weightMatrix(3, 1, 2, 3), nil},
		{weightMatrix(4, 1, 1, 1, 1, 1, 1), nil},
		{weightMatrix(4, 1, 0, 1, 1, 0, 1), nil},
		{weightMatrix(4, 1, 1, 1, 1, 0, 1), nil},
		{weightMatrix(4, 0, 1, 0, 0, 0, 0), nil},
		{weightMatrix(4, 2, 2, 2, 2, 2, 2), nil},
		{weightMatrix(4, make([]int, 6)...), nil},
		{weightMatrix(5, make([]int, 10)...), nil},
		{weightMatrix(5, slices.Repeat([]int{250}, 10)...), nil},
		{weightMatrix(4, 0, 1, 0, 0, 1, 0), [][]int{{0, 1}, {3, 2}}},
		{weightMatrix(4, 9, 1, 0, 9, 1, 9), [][]int{{0, 1}, {3, 2}}},
		{weightMatrix(4, 9, 1, 9, 0, 1, 9), [][]int{{0, 1}, {3, 2}}},
		{weightMatrix(4, 0, 1, 9, 9, 1, 9), [][]int{{1, 2}, {0, 3}}},
		{weightMatrix(4, 9, 1, 9, 9, 1, 0), [][]int{{1, 2}, {0, 3}}},
		{weightMatrix(4, 1, 2, 3, 4, 5, 6), [][]int{{1, 2}, {0, 3}}},
		{weightMatrix(5, 1, 2, 3, 4, 5, 6, 7, 8, 9, 10), [][]int{{1, 2}, {0, 3}}},
		{weightMatrix(5, 0, 1, 0, 0, 0, 1, 0, 0, 0, 0), [][]int{{0, 1}, {3, 2}}},
		{weightMatrix(5, 0, 1, 0, 0, 0, 0, 1, 0, 0, 0), [][]int{{0, 1}, {4, 2}}},
		{weightMatrix(5, 0, 0, 1, 0, 0, 0, 1, 0, 0, 0), [][]int{{0, 1}, {4, 3}}},
		{weightMatrix(5, 0, 0, 1, 0, 0, 0, 0, 0, 1, 0), [][]int{{0, 2}, {4, 3}}},
		{weightMatrix(5, 0, 0, 0, 0, 0, 1, 0, 0, 1, 0), [][]int{{1, 2}, {4, 3}}},
		{weightMatrix(5, 0, 1, 0, 1, 1, 0, 1, 0, 0, 0), [][]int{{1, 2}, {0, 4}}},
		{weightMatrix(5, 1, 0, 1, 1, 0, 1, 1, 0, 0, 0), [][]int{{1, 3}, {0, 4}}},
		{weightMatrix(5, 0, 0, 1, 1, 0, 0, 0, 1, 1, 0), [][]int{{2, 3}, {0, 4}}},
		{weightMatrix(5, 0, 0, 0, 0, 0, 1, 1, 1, 1, 0), [][]int{{2, 3}, {1, 4}}},
	}
	for _, c := range cases {
		if got := impl.PlanarReason(c.m); !equalRows(got, c.want) || impl.IsPlanarMatrix(c.m) != (len(c.want) == 0) {
			t.Errorf("PlanarReason(%v) = %v", c.m, got)
		}
	}
}

// Promise 5: the reason is the first pair with a negative minor, and a matrix
// without such a pair has none.
func TestPlanarReasonsOfAllMatrices(t *testing.T) {
	var pairs [impl.MaxNodes + 1][][][]int
	for k := range pairs {
		pairs[k] = pairsByHand(k)
	}
	planar, reasons := 0, map[string]int{}
	for m := range weightMatrices() {
		var want [][]int
		opposite := negated(m)
		for _, pair := range pairs[len(m)] {
			minor := eliminated(opposite, pair[0], pair[1])
			if got, ok := impl.MinorMatrix(m, pair[0], pair[1]); !ok || got != minor {
				t.Fatalf("MinorMatrix(%v, %v, %v) = %d, %v, not %d", m, pair[0], pair[1], got, ok, minor)
			}
			if minor < 0 && want == nil {
				want = pair
			}
		}
		got, is := impl.PlanarReason(m), impl.IsPlanarMatrix(m)
		if !equalRows(got, want) || is != (want == nil) || is != crossingsByHand(m) {
			t.Fatalf("PlanarReason(%v) = %v, not %v, and IsPlanarMatrix is %v", m, got, want, is)
		}
		if is {
			planar++
		} else {
			reasons[fmt.Sprint(got)]++
		}
	}
	if planar < 1000 || len(reasons) != 10 {
		t.Errorf("%d matrices are planar, and the others have the reasons %v", planar, reasons)
	}
}

// chordsOf gives the wires between terminals, and the ways between two
// terminals through an inner node. If there are four terminals or more, there
// is at most one inner node.
func chordsOf(n impl.Net) (wires [][2]int, ways [][2]int) {
	for _, w := range n.Wires {
		if w.B < n.Ends {
			wires = append(wires, [2]int{w.A, w.B})
		}
	}
	for v := n.Ends; v < n.Nodes; v++ {
		around := neighbours(n, v)
		for i, b := range around {
			for _, a := range around[:i] {
				ways = append(ways, [2]int{a, b})
			}
		}
	}
	return wires, ways
}

// onDisk asks whether no wire between terminals crosses another one or a way
// through the inner node.
func onDisk(n impl.Net) bool {
	wires, ways := chordsOf(n)
	for _, wire := range wires {
		for _, other := range slices.Concat(wires, ways) {
			a, b, c, d := wire[0], wire[1], other[0], other[1]
			if a < c && c < b && b < d || c < a && a < d && d < b {
				return false
			}
		}
	}
	return true
}

// Promise 5: no circular minor of a network on a disk is negative. With fewer
// than four terminals none of any network is.
func TestMinorsOnDisk(t *testing.T) {
	disks, others, negative := map[int]int{}, 0, 0
	for n := range seriesNets() {
		least := checkMinors(t, n)
		switch {
		case n.Ends < 4 || onDisk(n):
			disks[n.Ends]++
			if least.Sign() < 0 {
				t.Fatalf("the network %v on a disk has the minor %v", n, least)
			}
		case least.Sign() < 0:
			negative++
		default:
			others++
		}
	}
	if min(disks[4], disks[5], negative) < 100 || others == 0 {
		t.Errorf("%v networks are on a disk; of those that are not, %d have a negative minor and %d have none", disks, negative, others)
	}
}

// Promise 5: the matrix of the network of the terminals alone has the minors of
// the response, multiplied by the scale for each row.
func TestMatricesOfNets(t *testing.T) {
	planar, others := 0, 0
	for n := range starNets() {
		terminals, ok := impl.ResponseNet(n)
		if !ok {
			continue
		}
		m, nonnegative := impl.LaplacianOf(terminals), true
		for _, pair := range impl.CircularPairs(n.Ends) {
			minor, fine := impl.MinorMatrix(m, pair[0], pair[1])
			want, _ := impl.CircularMinor(n, pair[0], pair[1])
			divisor := terminals.Scale
			if len(pair[0]) == 2 {
				divisor *= terminals.Scale
			}
			if got := lowestTerms(minor, divisor); !fine || got != want {
				t.Fatalf("MinorMatrix(%v, %v, %v) = %d, %v, and CircularMinor of %v is %v", m, pair[0], pair[1], minor, fine, n, want)
			}
			nonnegative = nonnegative && minor >= 0
		}
		if impl.IsPlanarMatrix(m) != nonnegative {
			t.Fatalf("IsPlanarMatrix(%v) is %v for %v", m, !nonnegative, n)
		}
		if nonnegative {
			planar++
		} else {
			others++
		}
	}
	if min(planar, others) < 500 {
		t.Errorf("%d networks have a planar matrix, and %d have none", planar, others)
	}
}

// diskByHand draws a planar matrix of four terminals: if two wires cross, they
// become a star, together with as much of the others as its mesh has, and what
// is left of these is on the rim.
func diskByHand(m [][]int) [][]*big.Rat {
	conductances := filledRats(5)
	put := func(a int, b int, value *big.Rat) {
		conductances[a][b].Set(value)
		conductances[b][a].Set(value)
	}
	whole := func(a int, b int) *big.Rat { return big.NewRat(int64(-m[a][b]), 1) }
	crossing := new(big.Rat).Mul(whole(0, 2), whole(1, 3))
	if crossing.Sign() == 0 {
		for a := range 4 {
			for b := range a {
				put(a, b, whole(a, b))
			}
		}
		return conductances[:4]
	}
	first, second := new(big.Rat).Quo(crossing, whole(0, 3)), new(big.Rat).Quo(crossing, whole(0, 1))
	put(1, 2, new(big.Rat).Sub(whole(1, 2), first))
	put(2, 3, new(big.Rat).Sub(whole(2, 3), second))
	mesh := [][]*big.Rat{
		{new(big.Rat), whole(0, 1), whole(0, 2), whole(0, 3)},
		{whole(0, 1), new(big.Rat), first, whole(1, 3)},
		{whole(0, 2), first, new(big.Rat), second},
		{whole(0, 3), whole(1, 3), second, new(big.Rat)},
	}
	for a := range 4 {
		b, c := (a+1)%4, (a+2)%4
		product := new(big.Rat).Mul(mesh[a][b], mesh[a][c])
		put(a, 4, product.Add(product.Quo(product, mesh[b][c]), exactSum(mesh[a])))
	}
	return conductances
}

func filledRats(size int) [][]*big.Rat {
	rows := make([][]*big.Rat, size)
	for i := range rows {
		for range size {
			rows[i] = append(rows[i], new(big.Rat))
		}
	}
	return rows
}

// Promise 5: every matrix of four terminals without a negative circular minor
// is the response of a network on a disk.
func TestPlanarMatricesAreDrawn(t *testing.T) {
	stars := 0
	for m := range weightMatrices() {
		if len(m) != 4 || !impl.IsPlanarMatrix(m) {
			continue
		}
		conductances := diskByHand(m)
		n := impl.Net{Nodes: len(conductances), Ends: 4}
		for a := range conductances {
			for b := range conductances {
				if sign := conductances[a][b].Sign(); sign < 0 {
					t.Fatalf("%v is drawn as %v", m, conductances)
				} else if sign > 0 && a < b {
					n.Wires = append(n.Wires, impl.Wire{A: a, B: b, W: 1})
				}
			}
		}
		if !onDisk(n) {
			t.Fatalf("%v is drawn with the wires %v", m, n)
		}
		if got := reductionFrom(n, conductances).response(); !equalRatioRows(got, wholeRows(4, 1, slices.Concat(m...)...)) {
			t.Fatalf("the drawing of %v has the response %v", m, got)
		}
		if n.Nodes == 5 {
			stars++
		}
	}
	if stars < 100 {
		t.Errorf("only %d matrices need an inner node", stars)
	}
}

// A drawing of five terminals on the rim and inner nodes.
type drawing struct {
	nodes int
	wires [][2]int
}

// The rim and a star; the rim and two stars side by side; a pentagon with rays
// to the terminals, without and with a center.
func drawings() []drawing {
	rim := [][2]int{{0, 1}, {1, 2}, {2, 3}, {3, 4}, {0, 4}}
	star := [][2]int{{0, 5}, {1, 5}, {2, 5}, {3, 5}, {4, 5}}
	two := [][2]int{{0, 5}, {1, 5}, {2, 5}, {5, 6}, {0, 6}, {2, 6}, {3, 6}, {4, 6}}
	pentagon := [][2]int{{0, 5}, {1, 6}, {2, 7}, {3, 8}, {4, 9}, {5, 6}, {6, 7}, {7, 8}, {8, 9}, {5, 9}}
	center := [][2]int{{5, 10}, {6, 10}, {7, 10}, {8, 10}, {9, 10}}
	return []drawing{{6, slices.Concat(rim, star)}, {7, slices.Concat(rim, two)}, {10, slices.Concat(rim, pentagon)}, {11, slices.Concat(pentagon, center)}}
}

// matrixOf gives a multiple of a response whose elements are integers.
func matrixOf(response [][]impl.Ratio) [][]int {
	scale := 1
	for _, row := range response {
		for _, r := range row {
			scale *= lowestTerms(scale, r.D).D
		}
	}
	return filledRows(len(response), func(i int, j int) int { return scale / response[i][j].D * response[i][j].N })
}

// responseOn gives the wires of a drawing the conductance 1, or another one to
// two of them.
func responseOn(d drawing, one int, two int, other *big.Rat) [][]impl.Ratio {
	conductances := filledRats(d.nodes)
	for i, wire := range d.wires {
		value := big.NewRat(1, 1)
		if i == one || i == two {
			value = other
		}
		conductances[wire[0]][wire[1]].Set(value)
		conductances[wire[1]][wire[0]].Set(value)
	}
	return reductionFrom(impl.Net{Nodes: d.nodes, Ends: 5}, conductances).response()
}

// Promise 5: networks on a disk with more inner nodes than a Net can have, as
// far as their matrix has no elements beyond MaxEntry. All minors of these are
// positive, so that the terminals can stand in no other order on the rim.
func TestDrawingsOfFiveTerminals(t *testing.T) {
	orders := slices.DeleteFunc(differentLists(5), func(order []int) bool { return len(order) != 5 })
	for _, d := range drawings() {
		found := 0
		for one := range d.wires {
			for two := range one + 1 {
				for _, other := range []*big.Rat{big.NewRat(1, 2), big.NewRat(2, 1), big.NewRat(3, 1)} {
					if m := matrixOf(responseOn(d, one, two, other)); impl.IsWeightMatrix(m) {
						found++
						checkOrders(t, m, orders)
					}
				}
			}
		}
		if found < 20 {
			t.Errorf("only %d matrices of %v are found", found, d)
		}
	}
}

// checkOrders exchanges the terminals of a planar matrix whose minors are
// positive in all ways: only around the rim and the other way around does it
// stay planar.
func checkOrders(t *testing.T, m [][]int, orders [][]int) {
	t.Helper()
	if len(impl.PlanarReason(m)) != 0 || !impl.IsPlanarMatrix(m) {
		t.Fatalf("PlanarReason(%v) = %v", m, impl.PlanarReason(m))
	}
	for _, order := range orders {
		step := (order[1] - order[0] + 5) % 5
		around := step == 1 || step == 4
		for i := range order {
			around = around && (order[(i+1)%5]-order[i]+5)%5 == step
		}
		other := filledRows(5, func(i int, j int) int { return m[order[i]][order[j]] })
		if got := impl.IsPlanarMatrix(other); got != around || (len(impl.PlanarReason(other)) == 0) != around {
			t.Fatalf("IsPlanarMatrix(%v) is %v, in the order %v of %v", other, got, order, m)
		}
	}
}

// The scale does not matter, nor where on the rim the numbers begin and in
// which direction they go.
func TestPlanarMatricesTurned(t *testing.T) {
	for m := range weightMatrices() {
		want, k := impl.IsPlanarMatrix(m), len(m)
		for turn := 1; turn < k; turn++ {
			turned := filledRows(k, func(i int, j int) int { return m[(i+turn)%k][(j+turn)%k] })
			mirrored := filledRows(k, func(i int, j int) int { return m[(k+turn-i)%k][(k+turn-j)%k] })
			if impl.IsPlanarMatrix(turned) != want || impl.IsPlanarMatrix(mirrored) != want {
				t.Fatalf("IsPlanarMatrix(%v) is %v, but not for %v or %v", m, want, turned, mirrored)
			}
		}
		for _, factor := range []int{2, 3, 10, 100} {
			multiple := filledRows(k, func(i int, j int) int { return factor * m[i][j] })
			if impl.IsWeightMatrix(multiple) && !equalRows(impl.PlanarReason(multiple), impl.PlanarReason(m)) {
				t.Fatalf("PlanarReason(%v) = %v, but not for %v", m, impl.PlanarReason(m), multiple)
			}
		}
	}
}

// planarMatrices gives some of each kind: without and with a reason, and those
// that are not accepted.
func planarMatrices() [][][]int {
	return slices.Concat(badMatrices(), [][][]int{
		{{0}}, {{1, -1}, {-1, 1}}, weightMatrix(3, 1, 2, 3), weightMatrix(4, 1, 1, 1, 1, 1, 1), weightMatrix(4, 0, 1, 0, 0, 1, 0), weightMatrix(4, 1, 2, 3, 4, 5, 6),
		weightMatrix(5, 1, 2, 3, 4, 5, 6, 7, 8, 9, 10), weightMatrix(5, 0, 0, 1, 0, 0, 0, 0, 0, 1, 0), weightMatrix(5, slices.Repeat([]int{250}, 10)...),
	})
}

func TestPlanarKeepsItsMatrices(t *testing.T) {
	for _, plain := range planarMatrices() {
		m := rowsWithSpare(plain)
		for _, pair := range append(pairsByHand(5), noPairs()...) {
			p, q := listWithSpare(pair[0]), listWithSpare(pair[1])
			before := wholeText(m[:cap(m)]...) + wholeText(p, q)
			got, ok := impl.MinorMatrix(m, p, q)
			circular := impl.IsCircular(len(m), p, q)
			weights, planar := impl.IsWeightMatrix(m), impl.IsPlanarMatrix(m)
			reason := impl.PlanarReason(m)
			if after := wholeText(m[:cap(m)]...) + wholeText(p, q); len(m) != len(plain) || after != before {
				t.Fatalf("%s is changed to %s", before, after)
			}
			again, same := impl.MinorMatrix(copyOfRows(plain), pair[0], pair[1])
			if again != got || same != ok || impl.IsCircular(len(plain), pair[0], pair[1]) != circular || impl.IsWeightMatrix(plain) != weights || impl.IsPlanarMatrix(plain) != planar || !equalRows(impl.PlanarReason(plain), reason) {
				t.Fatalf("the results for %.200v, %.80v and %.80v are not always the same", plain, pair[0], pair[1])
			}
		}
	}
}

func TestCircularMinorKeepsItsArguments(t *testing.T) {
	for _, n := range append(goodNets(), badNets()...) {
		spare := withSpare(n)
		all := spare.Wires[:cap(spare.Wires)]
		before := slices.Clone(all)
		for _, pair := range append(pairsByHand(5), noPairs()...) {
			p, q := listWithSpare(pair[0]), listWithSpare(pair[1])
			text := wholeText(p, q)
			got, ok := impl.CircularMinor(spare, p, q)
			if after := wholeText(p, q); after != text || !slices.Equal(all, before) {
				t.Fatalf("%.400v or %s is changed to %.400v or %s", before, text, all, after)
			}
			if again, same := impl.CircularMinor(n, pair[0], pair[1]); again != got || same != ok {
				t.Fatalf("CircularMinor(%.400v, %.80v, %.80v) is once %v and once %v", n, pair[0], pair[1], got, again)
			}
		}
	}
}

// Both lists of a reason are filled up to their capacity, which must change
// neither each other nor the matrix nor another result.
func TestPlanarReasonIsNew(t *testing.T) {
	for _, plain := range planarMatrices() {
		m := rowsWithSpare(plain)
		before := wholeText(m[:cap(m)]...)
		want := copyOfRows(impl.PlanarReason(m))
		for side := range want {
			first, second := impl.PlanarReason(m), impl.PlanarReason(m)
			list := first[side][:cap(first[side])]
			for i := range list {
				list[i] = 77
			}
			if !slices.Equal(first[1-side], want[1-side]) || !equalRows(second, want) || wholeText(m[:cap(m)]...) != before {
				t.Errorf("list %d of PlanarReason(%v) shares memory", side, plain)
			}
			clear(first[:cap(first)])
			if third := impl.PlanarReason(m); !equalRows(second, want) || !equalRows(third, want) || !equalPairs(impl.CircularPairs(len(m)), pairsByHand(len(m))) {
				t.Errorf("PlanarReason(%v) shares memory", plain)
			}
		}
	}
}
