package tests

import (
	"fmt"
	"iter"
	"math"
	"math/big"
	"slices"
	"testing"

	"loop.example/g00859/impl"
)

func equalRows(a [][]int, b [][]int) bool {
	return slices.EqualFunc(a, b, func(v []int, w []int) bool { return slices.Equal(v, w) })
}

func copyOfRows(m [][]int) [][]int {
	rows := make([][]int, len(m))
	for i := range m {
		rows[i] = slices.Clone(m[i])
	}
	return rows
}

// filledRows makes a matrix whose entries are made by a function of its row
// and its column.
func filledRows(size int, entry func(int, int) int) [][]int {
	m := make([][]int, size)
	for i := range m {
		m[i] = make([]int, size)
		for j := range m[i] {
			m[i][j] = entry(i, j)
		}
	}
	return m
}

// testMatrices gives matrices of one size: with equal entries, with rows that
// depend on each other, with zeros on the diagonal, with entries at the limits,
// and many whose entries are spread over the whole range or near 0.
func testMatrices(size int) [][][]int {
	seed := uint64(size + 1)
	next := func() int {
		seed = seed*6364136223846793005 + 1442695040888963407
		return int(seed >> 33)
	}
	matrices := [][][]int{
		filledRows(size, func(int, int) int { return 0 }),
		filledRows(size, func(int, int) int { return -1000 }),
		filledRows(size, func(i int, j int) int { return i + j }),
		filledRows(size, func(i int, j int) int { return (i - j) * (i + 2*j + 1) }),
		filledRows(size, func(i int, j int) int { return 1000 - 2000*(next()%2) }),
	}
	for range 30 {
		matrices = append(matrices,
			filledRows(size, func(int, int) int { return next()%2001 - 1000 }),
			filledRows(size, func(int, int) int { return next()%5 - 2 }),
			filledRows(size, func(int, int) int { return []int{-1000, 0, 1000}[next()%3] }))
	}
	return matrices
}

// eliminated is the determinant by elimination with fractions: the product of
// the pivots, with the other sign for each exchange of rows.
func eliminated(m [][]int, rows []int, cols []int) int {
	work := make([][]*big.Rat, len(rows))
	for i, row := range rows {
		for _, col := range cols {
			work[i] = append(work[i], big.NewRat(int64(m[row][col]), 1))
		}
	}
	product := big.NewRat(1, 1)
	for i := range work {
		pivot := i
		for pivot < len(work) && work[pivot][i].Sign() == 0 {
			pivot++
		}
		if pivot == len(work) {
			return 0
		}
		if pivot != i {
			work[i], work[pivot] = work[pivot], work[i]
			product.Neg(product)
		}
		product.Mul(product, work[i][i])
		for _, below := range work[i+1:] {
			factor := new(big.Rat).Quo(below[i], work[i][i])
			for j := i; j < len(below); j++ {
				below[j].Sub(below[j], new(big.Rat).Mul(factor, work[i][j]))
			}
		}
	}
	return int(product.Num().Int64())
}

// listsOf gives all lists up to a length with elements from low up to high.
func listsOf(length int, low int, high int) [][]int {
	lists := [][]int{nil}
	for from := 0; length > 0; length-- {
		to := len(lists)
		for _, list := range lists[from:to] {
			for v := low; v < high; v++ {
				lists = append(lists, append(slices.Clone(list), v))
			}
		}
		from = to
	}
	return lists
}

func differentLists(size int) [][]int {
	return slices.DeleteFunc(listsOf(size, 0, size), func(list []int) bool {
		return len(slices.Compact(slices.Sorted(slices.Values(list)))) != len(list)
	})
}

func ascendingLists(size int) [][]int {
	return slices.DeleteFunc(differentLists(size), func(list []int) bool { return !slices.IsSorted(list) })
}

func TestDetLimits(t *testing.T) {
	if impl.MaxEntry != 1000 {
		t.Errorf("MaxEntry is %d", impl.MaxEntry)
	}
}

func TestLaplacianOf(t *testing.T) {
	cases := []struct {
		n    impl.Net
		want [][]int
	}{
		{netOf(1, 1, 1), [][]int{{0}}},
		{netOf(1, 1, 1000), [][]int{{0}}},
		{netOf(2, 1, 3, 0, 1, 5), [][]int{{5, -5}, {-5, 5}}},
		{netOf(2, 2, 1, 0, 1, 200), [][]int{{200, -200}, {-200, 200}}},
		{netOf(3, 2, 1, 0, 2, 1, 1, 2, 2), [][]int{{1, 0, -1}, {0, 2, -2}, {-1, -2, 3}}},
		{netOf(3, 3, 7, 0, 1, 1, 0, 2, 2, 1, 2, 3), [][]int{{3, -1, -2}, {-1, 4, -3}, {-2, -3, 5}}},
		{netOf(4, 2, 1, 0, 1, 1, 1, 2, 10, 2, 3, 100), [][]int{{1, -1, 0, 0}, {-1, 11, -10, 0}, {0, -10, 110, -100}, {0, 0, -100, 100}}},
		{netOf(5, 1, 9, 0, 4, 200, 1, 4, 200, 2, 4, 200, 3, 4, 200), [][]int{{200, 0, 0, 0, -200}, {0, 200, 0, 0, -200}, {0, 0, 200, 0, -200}, {0, 0, 0, 200, -200}, {-200, -200, -200, -200, 800}}},
		{completeNet(5, 5, 1), [][]int{{10, -1, -2, -3, -4}, {-1, 19, -5, -6, -7}, {-2, -5, 24, -8, -9}, {-3, -6, -8, 27, -10}, {-4, -7, -9, -10, 30}}},
	}
	for _, c := range cases {
		if got := impl.LaplacianOf(c.n); !equalRows(got, c.want) {
			t.Errorf("LaplacianOf(%v) = %v", c.n, got)
		}
	}
}

func TestLaplacianOfAllNets(t *testing.T) {
	for n := range allNets() {
		if got := impl.LaplacianOf(n); !equalRows(got, laplacianByHand(n)) {
			t.Errorf("LaplacianOf(%v) = %v", n, got)
		}
	}
}

// Each wire adds to two entries on the diagonal and two beside it.
func laplacianByHand(n impl.Net) [][]int {
	if !isValidNet(n) {
		return nil
	}
	m := filledRows(n.Nodes, func(int, int) int { return 0 })
	for _, w := range n.Wires {
		m[w.A][w.A] += w.W
		m[w.B][w.B] += w.W
		m[w.A][w.B] -= w.W
		m[w.B][w.A] -= w.W
	}
	return m
}

func TestMinorOf(t *testing.T) {
	one := [][]int{{-7}}
	two := [][]int{{1, 2}, {3, 4}}
	three := [][]int{{3, -1, -2}, {-1, 4, -3}, {-2, -3, 5}}
	four := [][]int{{0, 1, 0, 0}, {0, 0, 1, 0}, {0, 0, 0, 1}, {1, 0, 0, 0}}
	five := [][]int{{2, 0, 0, 0, 0}, {9, 3, 0, 0, 0}, {8, 7, 5, 0, 0}, {6, 5, 4, 7, 0}, {4, 3, 2, 1, 11}}
	all := []int{0, 1, 2, 3, 4}
	cases := []struct {
		m          [][]int
		rows, cols []int
		want       int
	}{
		{nil, nil, nil, 1},
		{nil, []int{}, nil, 1},
		{[][]int{}, nil, []int{}, 1},
		{[][]int{}, []int{}, []int{}, 1},
		{one, nil, nil, 1},
		{one, []int{0}, []int{0}, -7},
		{two, nil, []int{}, 1},
		{two, []int{0}, []int{0}, 1},
		{two, []int{0}, []int{1}, 2},
		{two, []int{1}, []int{0}, 3},
		{two, []int{1}, []int{1}, 4},
		{two, []int{0, 1}, []int{0, 1}, -2},
		{two, []int{1, 0}, []int{0, 1}, 2},
		{two, []int{0, 1}, []int{1, 0}, 2},
		{two, []int{1, 0}, []int{1, 0}, -2},
		{three, []int{0, 1}, []int{1, 2}, 11},
		{three, []int{1, 0}, []int{1, 2}, -11},
		{three, []int{2, 0}, []int{0, 2}, -11},
		{three, []int{1, 2}, []int{1, 2}, 11},
		{three, []int{0, 2}, []int{1, 2}, -11},
		{three, []int{0, 1, 2}, []int{2, 1, 0}, 0},
		{four, []int{0, 1, 2, 3}, []int{0, 1, 2, 3}, -1},
		{four, []int{0, 1, 2, 3}, []int{1, 2, 3, 0}, 1},
		{four, []int{3, 2, 1, 0}, []int{0, 3, 2, 1}, 1},
		{four, []int{3, 0, 2}, []int{0, 3, 1}, -1},
		{five, all, all, 2310},
		{five, all, []int{0, 1, 2, 4, 3}, -2310},
		{five, []int{4, 3, 2, 1, 0}, all, 2310},
		{five, []int{1, 2, 3, 4, 0}, []int{0, 1, 2, 3, 4}, 2310},
		{five, []int{4}, []int{3}, 1},
		{five, []int{3, 4}, []int{3, 0}, 22},
		{five, []int{4, 3}, []int{3, 0}, -22},
	}
	for _, c := range cases {
		if got, ok := impl.MinorOf(c.m, c.rows, c.cols); !ok || got != c.want {
			t.Errorf("MinorOf(%v, %v, %v) = %d, %v", c.m, c.rows, c.cols, got, ok)
		}
	}
}

func TestMinorOfListsNotValid(t *testing.T) {
	four := filledRows(4, func(i int, j int) int { return 4*i + j*j })
	five := filledRows(5, func(i int, j int) int { return 5*i + j*j })
	cases := []struct {
		m          [][]int
		rows, cols []int
	}{
		{nil, []int{0}, []int{0}},
		{nil, nil, []int{0}},
		{nil, []int{0}, nil},
		{[][]int{}, []int{0}, []int{0}},
		{four, []int{0}, nil},
		{four, nil, []int{0}},
		{four, []int{0, 1}, []int{0}},
		{four, []int{0, 1}, []int{0, 1, 2}},
		{four, []int{0}, []int{4}},
		{four, []int{4}, []int{0}},
		{four, []int{0, 4}, []int{0, 1}},
		{four, []int{0}, []int{-1}},
		{four, []int{-1}, []int{0}},
		{four, []int{0}, []int{math.MinInt}},
		{four, []int{math.MinInt}, []int{0}},
		{four, []int{0}, []int{math.MaxInt}},
		{four, []int{math.MaxInt}, []int{0}},
		{four, []int{1, 1}, []int{0, 1}},
		{four, []int{0, 1}, []int{1, 1}},
		{four, []int{0, 0}, []int{0, 0}},
		{four, []int{0, 1, 2, 0}, []int{0, 1, 2, 3}},
		{four, []int{0, 1, 2, 3}, []int{3, 2, 1, 3}},
		{four, []int{0, 1, 2, 3, 4}, []int{0, 1, 2, 3, 4}},
		{four, []int{0, 1, 2, 3, 3}, []int{0, 1, 2, 3, 3}},
		{five, []int{0, 1, 2, 3, 4}, []int{0, 1, 2, 3}},
		{five, []int{0, 1, 2, 3, 4}, []int{0, 1, 2, 3, 5}},
		{five, []int{0, 1, 2, 3, 4, 5}, []int{0, 1, 2, 3, 4, 5}},
		{five, []int{0, 1, 2, 3, 4, 0}, []int{0, 1, 2, 3, 4, 0}},
		{five, []int{0, 1, 2, 3, 4, 0}, []int{0, 1, 2, 3, 4}},
		{five, make([]int, 1000), make([]int, 1000)},
		{nil, make([]int, 1000), make([]int, 1000)},
	}
	for _, c := range cases {
		if got, ok := impl.MinorOf(c.m, c.rows, c.cols); ok || got != 0 {
			t.Errorf("MinorOf(%v, %.80v, %.80v) = %d, %v", c.m, c.rows, c.cols, got, ok)
		}
	}
}

// An entry or a row that is not valid counts also if the minor does not need
// it.
func TestMinorOfMatrixNotValid(t *testing.T) {
	cases := map[string][][]int{
		"an empty row":                {{}},
		"a nil row":                   {nil},
		"a row of two":                {{1, 2}},
		"two rows of one":             {{1}, {2}},
		"two rows of three":           {{1, 2, 3}, {4, 5, 6}},
		"a first row that is short":   {{1}, {2, 3}},
		"a last row that is short":    {{1, 2}, {3}},
		"a first row that is long":    {{1, 2, 3}, {4, 5}},
		"a last row that is long":     {{1, 2}, {3, 4, 5}},
		"a first row that is nil":     {nil, {1, 2}},
		"a last row that is nil":      {{1, 2}, nil},
		"a middle row that is nil":    {{1, 2, 3}, nil, {4, 5, 6}},
		"rows that are nil":           {nil, nil, nil},
		"six rows":                    filledRows(6, func(i int, j int) int { return i + j }),
		"six rows of five":            filledRows(6, func(int, int) int { return 1 })[:5],
		"six rows that are nil":       make([][]int, 6),
		"a thousand rows":             make([][]int, 1000),
		"six rows, five of them good": append(filledRows(5, func(i int, j int) int { return i + j }), nil),
	}
	for label, m := range cases {
		for length := range 7 {
			list := []int{0, 1, 2, 3, 4, 5}[:length]
			if got, ok := impl.MinorOf(m, list, list); ok || got != 0 {
				t.Errorf("the minor of %s for %v is %d, %v", label, list, got, ok)
			}
		}
	}
}

func TestMinorOfEntries(t *testing.T) {
	entries := []int{math.MinInt, math.MinInt + 1, -2000, -1001, -1000, -999, 0, 999, 1000, 1001, 2000, 1<<32 + 1, math.MaxInt}
	for size := 1; size <= 5; size++ {
		for place := range size * size {
			for _, entry := range entries {
				m := filledRows(size, func(i int, j int) int { return 2*i - j })
				m[place/size][place%size] = entry
				for _, list := range ascendingLists(size) {
					want, wanted := 0, entry >= -1000 && entry <= 1000
					if wanted {
						want = eliminated(m, list, list)
					}
					if got, ok := impl.MinorOf(m, list, list); ok != wanted || got != want {
						t.Fatalf("MinorOf(%v, %v, %v) = %d, %v", m, list, list, got, ok)
					}
				}
			}
		}
	}
}

// The greatest determinant with entries up to 1000 is 48 times 1000 to the
// power of 5.
func TestMinorOfGreatest(t *testing.T) {
	m := filledRows(5, func(i int, j int) int {
		if i == j {
			return -1000
		}
		return 1000
	})
	all := []int{0, 1, 2, 3, 4}
	if got, ok := impl.MinorOf(m, all, all); !ok || got != 48000000000000000 {
		t.Errorf("the greatest minor is %d, %v", got, ok)
	}
	if got, ok := impl.MinorOf(m, []int{1, 0, 2, 3, 4}, all); !ok || got != -48000000000000000 {
		t.Errorf("the least minor is %d, %v", got, ok)
	}
}

func TestMinorOfAllMatrices(t *testing.T) {
	for size := range 6 {
		lists := ascendingLists(size)
		for _, m := range testMatrices(size) {
			for _, rows := range lists {
				for _, cols := range lists {
					checkMinor(t, m, rows, cols)
				}
			}
		}
	}
}

func TestMinorOfAllOrders(t *testing.T) {
	for size := range 6 {
		m := testMatrices(size)[size+6]
		lists := differentLists(size)
		for _, rows := range lists {
			for _, cols := range lists {
				if len(rows) == len(cols) {
					checkMinor(t, m, rows, cols)
				}
			}
		}
	}
}

func checkMinor(t *testing.T, m [][]int, rows []int, cols []int) {
	want, wanted := 0, len(rows) == len(cols)
	if wanted {
		want = eliminated(m, rows, cols)
	}
	if got, ok := impl.MinorOf(m, rows, cols); ok != wanted || got != want {
		t.Fatalf("MinorOf(%v, %v, %v) = %d, %v, not %d, %v", m, rows, cols, got, ok, want, wanted)
	}
}

// Of all short lists with elements around the lines of a matrix, those of one
// length with different lines that exist have a minor.
func TestMinorOfAllLists(t *testing.T) {
	for size := range 4 {
		m := testMatrices(size)[7]
		good := differentLists(size)
		lists := listsOf(size+1, -1, size+1)
		for _, rows := range lists {
			rowsOk := slices.ContainsFunc(good, func(list []int) bool { return slices.Equal(list, rows) })
			for _, cols := range lists {
				colsOk := slices.ContainsFunc(good, func(list []int) bool { return slices.Equal(list, cols) })
				if rowsOk && colsOk {
					checkMinor(t, m, rows, cols)
				} else if got, ok := impl.MinorOf(m, rows, cols); ok || got != 0 {
					t.Fatalf("MinorOf(%v, %v, %v) = %d, %v", m, rows, cols, got, ok)
				}
			}
		}
	}
}

func TestTreeSum(t *testing.T) {
	cases := []struct {
		n           impl.Net
		want, count int
	}{
		{netOf(1, 1, 1), 1, 1},
		{impl.Net{Nodes: 1, Ends: 1, Scale: 1000, Wires: []impl.Wire{}}, 1, 1},
		{netOf(2, 1, 1, 0, 1, 1), 1, 1},
		{netOf(2, 2, 7, 0, 1, 200), 200, 1},
		{netOf(3, 2, 1, 0, 2, 1, 1, 2, 2), 2, 1},
		{netOf(3, 3, 1, 0, 1, 1, 0, 2, 2, 1, 2, 3), 11, 3},
		{netOf(3, 1, 50, 0, 1, 5, 0, 2, 7, 1, 2, 11), 35 + 55 + 77, 3},
		{netOf(4, 4, 10, 0, 1, 5, 1, 2, 7, 2, 3, 9), 315, 1},
		{netOf(4, 2, 1, 0, 1, 2, 0, 3, 3, 1, 2, 5, 2, 3, 7), 30 + 42 + 70 + 105, 4},
		{netOf(4, 2, 1, 0, 1, 1, 0, 2, 1, 0, 3, 1, 1, 2, 1, 2, 3, 1), 8, 8},
		{netOf(4, 2, 1, 0, 1, 1, 0, 2, 1, 0, 3, 1, 1, 2, 1, 1, 3, 1, 2, 3, 1), 16, 16},
		{netOf(5, 1, 1000, 0, 1, 200, 0, 2, 200, 0, 3, 200, 0, 4, 200), 1600000000, 1},
		{netOf(5, 5, 1, 0, 1, 1, 0, 4, 2, 1, 2, 3, 2, 3, 4, 3, 4, 5), 120 + 60 + 40 + 30 + 24, 5},
		{sameWeights(5, 1), 125, 125},
		{sameWeights(5, 200), 200000000000, 125},
		{sameWeights(4, 200), 128000000, 16},
		{sameWeights(3, 200), 120000, 3},
	}
	for _, c := range cases {
		if got := impl.TreeSum(c.n); got != c.want {
			t.Errorf("TreeSum(%v) = %d", c.n, got)
		}
		if got := impl.CountTrees(c.n); got != c.count {
			t.Errorf("CountTrees(%v) = %d", c.n, got)
		}
	}
}

func sameWeights(nodes int, weight int) impl.Net {
	n := completeNet(nodes, 1, 1)
	for i := range n.Wires {
		n.Wires[i].W = weight
	}
	return n
}

func TestForestSum(t *testing.T) {
	triangle := netOf(3, 3, 1, 0, 1, 1, 0, 2, 2, 1, 2, 3)
	path := netOf(4, 2, 9, 0, 1, 5, 1, 2, 7, 2, 3, 9)
	cases := []struct {
		n          impl.Net
		a, b, want int
	}{
		{netOf(1, 1, 1), 0, 0, 0},
		{netOf(1, 1, 1), 0, 1, 0},
		{netOf(1, 1, 1), -1, 0, 0},
		{netOf(2, 1, 1, 0, 1, 200), 0, 1, 1},
		{netOf(2, 1, 1, 0, 1, 200), 1, 0, 1},
		{netOf(2, 1, 1, 0, 1, 200), 1, 1, 0},
		{netOf(2, 1, 1, 0, 1, 200), 1, 2, 0},
		{triangle, 0, 1, 5},
		{triangle, 1, 0, 5},
		{triangle, 0, 2, 4},
		{triangle, 2, 1, 3},
		{triangle, 0, 0, 0},
		{triangle, 2, 2, 0},
		{triangle, 0, 3, 0},
		{triangle, 3, 0, 0},
		{triangle, -1, 2, 0},
		{triangle, 2, -1, 0},
		{triangle, 3, 4, 0},
		{triangle, 3, 3, 0},
		{triangle, -1, -1, 0},
		{triangle, math.MinInt, math.MaxInt, 0},
		{triangle, math.MaxInt, math.MinInt, 0},
		{triangle, 0, math.MaxInt, 0},
		{triangle, math.MinInt, 0, 0},
		{path, 0, 1, 63},
		{path, 1, 2, 45},
		{path, 3, 2, 35},
		{path, 0, 2, 63 + 45},
		{path, 3, 0, 63 + 45 + 35},
		{sameWeights(5, 200), 0, 1, 400000000},
		{sameWeights(5, 200), 4, 3, 400000000},
		{sameWeights(5, 200), 4, 4, 0},
		{sameWeights(5, 200), 4, 5, 0},
	}
	for _, c := range cases {
		if got := impl.ForestSum(c.n, c.a, c.b); got != c.want {
			t.Errorf("ForestSum(%v, %d, %d) = %d", c.n, c.a, c.b, got)
		}
	}
}

func TestCrossSum(t *testing.T) {
	two := netOf(2, 2, 1, 0, 1, 9)
	triangle := netOf(3, 3, 1, 0, 1, 1, 0, 2, 2, 1, 2, 3)
	path := netOf(4, 2, 9, 0, 1, 5, 1, 2, 7, 2, 3, 9)
	cases := []struct {
		n          impl.Net
		a, b, c, d int
		want       int
	}{
		{two, 0, 1, 0, 1, 1},
		{triangle, 0, 1, 0, 1, 5},
		{triangle, 0, 1, 0, 2, -3},
		{triangle, 0, 2, 0, 1, -3},
		{triangle, 0, 1, 1, 2, -2},
		{triangle, 1, 2, 0, 2, -1},
		{triangle, 1, 2, 1, 2, 3},
		{path, 0, 3, 0, 3, 143},
		{path, 0, 1, 2, 3, 0},
		{path, 0, 2, 1, 3, 45},
		{path, 0, 3, 1, 2, 45},
		{path, 1, 2, 0, 3, 45},
		{path, 0, 1, 0, 2, -63},
		{completeNet(5, 1, 1), 0, 1, 0, 1, 24*27*30 - 24*100 - 27*81 - 30*64 - 2*720},
	}
	for _, c := range cases {
		if got, ok := impl.CrossSum(c.n, c.a, c.b, c.c, c.d); !ok || got != c.want {
			t.Errorf("CrossSum(%v, %d, %d, %d, %d) = %d, %v", c.n, c.a, c.b, c.c, c.d, got, ok)
		}
	}
}

func TestCrossSumNotValid(t *testing.T) {
	triangle := netOf(3, 3, 1, 0, 1, 1, 0, 2, 2, 1, 2, 3)
	cases := []struct {
		n          impl.Net
		a, b, c, d int
	}{
		{netOf(1, 1, 1), 0, 0, 0, 0},
		{netOf(1, 1, 1), 0, 1, 0, 1},
		{netOf(1, 1, 1), -1, 0, -1, 0},
		{triangle, 1, 0, 0, 2},
		{triangle, 0, 2, 1, 0},
		{triangle, 1, 0, 1, 0},
		{triangle, 1, 1, 0, 2},
		{triangle, 0, 2, 1, 1},
		{triangle, 1, 1, 1, 1},
		{triangle, 0, 3, 0, 1},
		{triangle, 0, 1, 0, 3},
		{triangle, 3, 4, 0, 1},
		{triangle, 0, 1, 3, 4},
		{triangle, -1, 1, 0, 1},
		{triangle, 0, 1, -1, 1},
		{triangle, -2, -1, 0, 1},
		{triangle, 0, 1, -2, -1},
		{triangle, math.MinInt, math.MaxInt, 0, 1},
		{triangle, 0, 1, math.MinInt, math.MaxInt},
		{triangle, 0, math.MaxInt, 0, math.MaxInt},
		{sameWeights(5, 1), 0, 5, 0, 5},
		{sameWeights(5, 1), 4, 5, 4, 5},
	}
	for _, c := range cases {
		if got, ok := impl.CrossSum(c.n, c.a, c.b, c.c, c.d); ok || got != 0 {
			t.Errorf("CrossSum(%v, %d, %d, %d, %d) = %d, %v", c.n, c.a, c.b, c.c, c.d, got, ok)
		}
	}
}

func TestSumsOfNetsNotValid(t *testing.T) {
	for _, n := range badNets() {
		if got := impl.LaplacianOf(n); len(got) != 0 {
			t.Errorf("LaplacianOf(%.400v) = %v", n, got)
		}
		if trees, count := impl.TreeSum(n), impl.CountTrees(n); trees != 0 || count != 0 {
			t.Errorf("the trees of %.400v have the sum %d and the number %d", n, trees, count)
		}
		for b := range impl.MaxNodes {
			if got := impl.ForestSum(n, 0, b); got != 0 {
				t.Errorf("ForestSum(%.400v, 0, %d) = %d", n, b, got)
			}
			if got, ok := impl.CrossSum(n, 0, b, 0, 1); ok || got != 0 {
				t.Errorf("CrossSum(%.400v, 0, %d, 0, 1) = %d, %v", n, b, got, ok)
			}
		}
	}
}

// A forest splits the nodes of a network into pieces: its trees, each with the
// number of one of its nodes.
type forest struct {
	piece   [impl.MaxNodes]int
	product int
}

func (f forest) joins(a int, b int) bool { return f.piece[a] == f.piece[b] }

// forestsOf gives each set of wires without a cycle that leaves the nodes in
// so many pieces.
func forestsOf(n impl.Net, pieces int) iter.Seq[forest] {
	return func(yield func(forest) bool) {
		for set := range 1 << len(n.Wires) {
			f, count, cycle := forest{piece: [impl.MaxNodes]int{0, 1, 2, 3, 4}, product: 1}, n.Nodes, false
			for i, w := range n.Wires {
				if set>>i&1 == 0 {
					continue
				}
				cycle = cycle || f.joins(w.A, w.B)
				count--
				f.product *= w.W
				from, to := f.piece[w.A], f.piece[w.B]
				for v := range f.piece {
					if f.piece[v] == from {
						f.piece[v] = to
					}
				}
			}
			if !cycle && count == pieces && !yield(f) {
				return
			}
		}
	}
}

func TestTreesOfAllNets(t *testing.T) {
	for n := range allNets() {
		sum, count := 0, 0
		for f := range forestsOf(n, 1) {
			sum += f.product
			count++
		}
		if got := impl.TreeSum(n); got != sum {
			t.Errorf("TreeSum(%v) = %d, not %d", n, got, sum)
		}
		if got := impl.CountTrees(n); got != count {
			t.Errorf("CountTrees(%v) = %d, not %d", n, got, count)
		}
	}
}

// With two trees, the rows taken out are in different ones, and so are the
// columns. The sign is that of the places of all four, and of the order in
// which the trees join them.
func (f forest) term(a int, b int, c int, d int) int {
	if f.joins(a, b) || f.joins(c, d) {
		return 0
	}
	sign := 1 - (a+b+c+d)%2*2
	if f.joins(a, d) {
		sign = -sign
	}
	return sign * f.product
}

func TestForestsOfAllNets(t *testing.T) {
	for n := range allNets() {
		var forests []forest
		if isValidNet(n) {
			forests = slices.Collect(forestsOf(n, 2))
		}
		for a := -1; a <= impl.MaxNodes; a++ {
			for b := -1; b <= impl.MaxNodes; b++ {
				checkForests(t, n, forests, a, b)
				for c := -1; c <= impl.MaxNodes; c++ {
					for d := -1; d <= impl.MaxNodes; d++ {
						checkCross(t, n, forests, a, b, c, d)
					}
				}
			}
		}
	}
}

func checkForests(t *testing.T, n impl.Net, forests []forest, a int, b int) {
	want := 0
	for _, f := range forests {
		if min(a, b) >= 0 && max(a, b) < n.Nodes && !f.joins(a, b) {
			want += f.product
		}
	}
	if got := impl.ForestSum(n, a, b); got != want {
		t.Fatalf("ForestSum(%v, %d, %d) = %d, not %d", n, a, b, got, want)
	}
}

func checkCross(t *testing.T, n impl.Net, forests []forest, a int, b int, c int, d int) {
	want, wanted := 0, isValidNet(n) && a >= 0 && c >= 0 && a < b && c < d && b < n.Nodes && d < n.Nodes
	if wanted {
		for _, f := range forests {
			want += f.term(a, b, c, d)
		}
	}
	if got, ok := impl.CrossSum(n, a, b, c, d); ok != wanted || got != want {
		t.Fatalf("CrossSum(%v, %d, %d, %d, %d) = %d, %v, not %d, %v", n, a, b, c, d, got, ok, want, wanted)
	}
}

// Terminals and scale have no influence on the sums.
func TestSumsOfWiresOnly(t *testing.T) {
	want := completeNet(5, 1, 1)
	for ends := 1; ends <= 5; ends++ {
		for _, scale := range []int{1, 2, 7, 999, 1000} {
			n := completeNet(5, ends, scale)
			if impl.TreeSum(n) != impl.TreeSum(want) || impl.CountTrees(n) != 125 || impl.ForestSum(n, 3, 1) != impl.ForestSum(want, 3, 1) || !equalRows(impl.LaplacianOf(n), impl.LaplacianOf(want)) {
				t.Errorf("the sums of %v are not those of %v", n, want)
			}
		}
	}
}

// TreeSum times the potential at x, for a current from a to b where the
// potential is 0: the inverse of the matrix without b has this entry.
func potentialTimesTrees(n impl.Net, a int, b int, x int) int {
	if x == b {
		return 0
	}
	sum, _ := impl.CrossSum(n, min(a, b), max(a, b), min(x, b), max(x, b))
	place := a + x
	for _, v := range []int{a, x} {
		if v > b {
			place--
		}
	}
	return (1 - place%2*2) * sum
}

// Potentials from these sums obey the law of Kirchhoff, and ForestSum is the
// one between which the current flows: resistances are ratios of the sums.
func TestPotentialsFromSums(t *testing.T) {
	for n := range allNets() {
		if !isValidNet(n) {
			continue
		}
		trees := impl.TreeSum(n)
		for a := range n.Nodes {
			for b := range n.Nodes {
				if a != b {
					checkKirchhoff(t, n, a, b, trees)
				}
			}
		}
	}
}

func checkKirchhoff(t *testing.T, n impl.Net, a int, b int, trees int) {
	table := tableOf(n)
	for x := range n.Nodes {
		current := 0
		for y := range n.Nodes {
			current += table[x][y] * (potentialTimesTrees(n, a, b, x) - potentialTimesTrees(n, a, b, y))
		}
		want := map[int]int{a: trees, b: -trees}[x]
		if current != want {
			t.Errorf("in %v with a current from %d to %d, %d leaves %d instead of %d", n, a, b, current, x, want)
		}
	}
	if got := impl.ForestSum(n, a, b); got != potentialTimesTrees(n, a, b, a) {
		t.Errorf("ForestSum(%v, %d, %d) = %d is not the potential", n, a, b, got)
	}
}

// Each tree has one wire less than there are nodes, and ForestSum of its ends
// times its weight is the sum of the trees that have the wire.
func TestForestsOfWires(t *testing.T) {
	for n := range allNets() {
		if !isValidNet(n) {
			continue
		}
		sum := 0
		for _, w := range n.Wires {
			sum += w.W * impl.ForestSum(n, w.A, w.B)
		}
		if want := (n.Nodes - 1) * impl.TreeSum(n); sum != want {
			t.Errorf("the wires of %v are in trees with the sum %d, not %d", n, sum, want)
		}
	}
}

// listWithSpare puts numbers into the capacity behind those of a list.
func listWithSpare(list []int) []int {
	return slices.Concat(list, []int{-71, 72, 0})[:len(list)]
}

func rowsWithSpare(m [][]int) [][]int {
	rows := slices.Concat(m, [][]int{{81, 82}, nil})
	for i := range rows {
		rows[i] = listWithSpare(rows[i])
	}
	return rows[:len(m)]
}

// The text of a list or a matrix with all its capacity, also of its rows.
func wholeText(lists ...[]int) string {
	text := ""
	for _, list := range lists {
		text += fmt.Sprint(len(list), list[:cap(list)])
	}
	return text
}

func TestMinorOfKeepsItsArguments(t *testing.T) {
	matrices := [][][]int{nil, {nil}, {{1, 2}, {3}}, {{1, 5000}, {3, 4}}, filledRows(6, func(i int, j int) int { return i + j })}
	for size := range 6 {
		matrices = append(matrices, testMatrices(size)[6])
	}
	lists := [][]int{nil, {0}, {1, 0}, {2, 0, 1}, {3, 1, 0, 2}, {4, 0, 3, 1, 2}, {0, 1, 2, 3, 4, 5}, {1, 1}, {-1}, {9, 8}}
	for _, plain := range matrices {
		m := rowsWithSpare(plain)
		for _, list := range lists {
			rows, cols := listWithSpare(list), listWithSpare(list)
			before := wholeText(m[:cap(m)]...) + wholeText(rows, cols)
			got, ok := impl.MinorOf(m, rows, cols)
			if after := wholeText(m[:cap(m)]...) + wholeText(rows, cols); len(m) != len(plain) || after != before {
				t.Errorf("MinorOf changes %s to %s", before, after)
			}
			if again, same := impl.MinorOf(copyOfRows(plain), list, list); again != got || same != ok {
				t.Errorf("MinorOf(%v, %v, %v) is once %d, %v and once %d, %v", plain, list, list, got, ok, again, same)
			}
		}
	}
}

func TestSumsKeepTheirNet(t *testing.T) {
	for _, n := range append(goodNets(), badNets()...) {
		spare := withSpare(n)
		all := spare.Wires[:cap(spare.Wires)]
		before := slices.Clone(all)
		trees, count, forests := impl.TreeSum(spare), impl.CountTrees(spare), impl.ForestSum(spare, 1, 0)
		cross, ok := impl.CrossSum(spare, 0, 1, 0, 2)
		impl.LaplacianOf(spare)
		if !slices.Equal(all, before) {
			t.Errorf("%.400v is changed to %.400v", before, all)
		}
		again, same := impl.CrossSum(n, 0, 1, 0, 2)
		if impl.TreeSum(n) != trees || impl.CountTrees(n) != count || impl.ForestSum(n, 1, 0) != forests || again != cross || same != ok {
			t.Errorf("the sums of %.400v are not always the same", n)
		}
	}
}

// Each row of a result is filled up to its capacity, which must change no
// other row, no other result and no argument.
func TestLaplacianOfIsNew(t *testing.T) {
	for _, n := range goodNets() {
		before := copyOf(n)
		for i := range n.Nodes {
			first, second := impl.LaplacianOf(n), impl.LaplacianOf(n)
			rest := copyOfRows(second)
			row := first[i][:cap(first[i])]
			for j := range row {
				row[j] = 77
			}
			if !equalRows(second, rest) || !equalNets(n, before) {
				t.Fatalf("LaplacianOf(%v) shares memory", before)
			}
			if !equalRows(slices.Delete(first, i, i+1), slices.Delete(rest, i, i+1)) {
				t.Fatalf("two rows of LaplacianOf(%v) share memory", n)
			}
		}
	}
}
