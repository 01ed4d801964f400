package tests

import (
	"iter"
	"math"
	"math/big"
	"slices"
	"strconv"
	"strings"
	"testing"

	"loop.example/g00859/impl"
)

const topNum = 1000000000000000000
const topDiv = 1000000000000000

// Integers at which a function of fractions may go wrong: 0, small ones, the
// limits of both terms, powers of 2 and 10, primes, and the limits of int.
func edgeInts() []int {
	edges := []int{0, 97, 999999999989, 999999999999989, 999999999999999989, math.MinInt, math.MaxInt, -math.MaxInt}
	for n := 1; n <= 12; n++ {
		edges = append(edges, n, -n)
	}
	for _, limit := range []int{topNum, topDiv, 9 * topNum, topNum + topDiv, 2 * topNum, 3 * topDiv, 1 << 31, 1 << 32, 1 << 62} {
		for near := -2; near <= 2; near++ {
			edges = append(edges, limit+near, -limit+near)
		}
	}
	for power := 10; power < topNum; power *= 100 {
		edges = append(edges, power, -power, power-1, 3*power, power/2)
	}
	slices.Sort(edges)
	return slices.Compact(edges)
}

func edgePairs() iter.Seq2[int, int] {
	return func(yield func(int, int) bool) {
		edges := edgeInts()
		for _, a := range edges {
			for _, b := range edges {
				if !yield(a, b) {
					return
				}
			}
		}
	}
}

func isValid(n int, d int) bool {
	if d < 1 || d > topDiv || n < -topNum || n > topNum {
		return false
	}
	lowest := big.NewRat(int64(n), int64(d))
	return lowest.Denom().Int64() == int64(d)
}

func exact(r impl.Ratio) *big.Rat { return big.NewRat(int64(r.N), int64(r.D)) }

// Valid fractions at the limits, near each other and near integers.
func edgeRatios() []impl.Ratio {
	var valid []impl.Ratio
	for n, d := range edgePairs() {
		if isValid(n, d) {
			valid = append(valid, impl.Ratio{N: n, D: d})
		}
	}
	return valid
}

func badRatios() []impl.Ratio {
	return []impl.Ratio{
		{}, {N: 1}, {N: -1}, {N: 1, D: -1}, {N: 1, D: -2}, {N: -1, D: -2}, {D: -1}, {D: 2}, {D: topDiv},
		{N: 2, D: 2}, {N: 2, D: 4}, {N: -3, D: 6}, {N: topDiv, D: topDiv}, {N: -topDiv, D: topDiv},
		{N: 1, D: topDiv + 1}, {N: -1, D: topDiv + 1}, {D: topDiv + 1}, {N: topNum + 1, D: topDiv}, {N: topNum, D: topDiv},
		{N: topNum + 1, D: 1}, {N: -topNum - 1, D: 1}, {N: topNum + 1, D: 2}, {N: -topNum - 1, D: 2},
		{N: math.MaxInt, D: 1}, {N: -math.MaxInt, D: 1}, {N: math.MinInt, D: 1}, {N: math.MinInt, D: 3}, {N: math.MinInt, D: math.MinInt},
		{N: 1, D: math.MaxInt}, {N: 1, D: -math.MaxInt}, {N: 1, D: math.MinInt}, {D: math.MinInt}, {N: math.MinInt}, {N: math.MaxInt, D: math.MaxInt},
		{N: math.MaxInt, D: 2}, {N: 1, D: 1 << 62},
	}
}

func TestRatioLimits(t *testing.T) {
	if impl.MaxNum != 1000000000000000000 || impl.MaxDiv != 1000000000000000 {
		t.Errorf("MaxNum is %d and MaxDiv is %d", impl.MaxNum, impl.MaxDiv)
	}
}

func TestGcdOf(t *testing.T) {
	cases := []struct{ a, b, want int }{
		{0, 0, 0},
		{0, 5, 5},
		{5, 0, 5},
		{0, -5, 5},
		{-5, 0, 5},
		{1, 1, 1},
		{1, -1, 1},
		{-1, -1, 1},
		{12, 18, 6},
		{-12, 18, 6},
		{12, -18, 6},
		{-12, -18, 6},
		{18, 12, 6},
		{7, 7, 7},
		{7, 21, 7},
		{21, -7, 7},
		{8, 15, 1},
		{topNum, topDiv, topDiv},
		{math.MaxInt, 0, math.MaxInt},
		{0, math.MaxInt, math.MaxInt},
		{-math.MaxInt, 0, math.MaxInt},
		{0, -math.MaxInt, math.MaxInt},
		{-math.MaxInt, math.MaxInt, math.MaxInt},
		{math.MaxInt, 49, 49},
		{7540113804746346429, 4660046610375530309, 1},
		{math.MinInt, 0, 0},
		{0, math.MinInt, 0},
		{math.MinInt, 1, 0},
		{-1, math.MinInt, 0},
		{math.MinInt, 6, 0},
		{6, math.MinInt, 0},
		{math.MinInt, math.MaxInt, 0},
		{math.MinInt, math.MinInt, 0},
	}
	for _, c := range cases {
		if got := impl.GcdOf(c.a, c.b); got != c.want {
			t.Errorf("GcdOf(%d, %d) = %d", c.a, c.b, got)
		}
	}
}

func TestGcdOfEdges(t *testing.T) {
	for a, b := range edgePairs() {
		want := 0
		if a != math.MinInt && b != math.MinInt {
			x, y := big.NewInt(int64(a)), big.NewInt(int64(b))
			want = int(new(big.Int).GCD(nil, nil, x.Abs(x), y.Abs(y)).Int64())
		}
		if got := impl.GcdOf(a, b); got != want {
			t.Errorf("GcdOf(%d, %d) = %d", a, b, got)
		}
	}
}

// The greatest common divisor is found among all numbers that divide both.
func TestGcdOfSmall(t *testing.T) {
	for a := -40; a <= 40; a++ {
		for b := -40; b <= 40; b++ {
			want := 0
			for divisor := 1; divisor <= 40; divisor++ {
				if (a != 0 || b != 0) && a%divisor == 0 && b%divisor == 0 {
					want = divisor
				}
			}
			if got := impl.GcdOf(a, b); got != want {
				t.Errorf("GcdOf(%d, %d) = %d", a, b, got)
			}
		}
	}
}

func TestRatioOk(t *testing.T) {
	good := []impl.Ratio{
		{D: 1}, {N: 1, D: 1}, {N: -1, D: 1}, {N: 7, D: 1}, {N: 1, D: 2}, {N: -3, D: 2}, {N: 2, D: 3}, {N: -9, D: 4},
		{N: topNum, D: 1}, {N: -topNum, D: 1}, {N: topNum, D: 3}, {N: -topNum, D: 3}, {N: topNum - 1, D: topDiv}, {N: 1 - topNum, D: topDiv},
		{N: 1, D: topDiv}, {N: -1, D: topDiv}, {N: topDiv + 1, D: topDiv}, {N: 1, D: topDiv - 1}, {N: topNum, D: topDiv - 1},
	}
	for _, r := range good {
		if !impl.RatioOk(r) {
			t.Errorf("RatioOk(%v) is false", r)
		}
	}
	for _, r := range badRatios() {
		if impl.RatioOk(r) {
			t.Errorf("RatioOk(%v) is true", r)
		}
	}
}

func TestRatioOkEdges(t *testing.T) {
	for n, d := range edgePairs() {
		if got := impl.RatioOk(impl.Ratio{N: n, D: d}); got != isValid(n, d) {
			t.Errorf("RatioOk of %d / %d is %v", n, d, got)
		}
	}
}

func TestRatioOf(t *testing.T) {
	cases := []struct {
		n, d int
		want impl.Ratio
	}{
		{1, 2, impl.Ratio{N: 1, D: 2}},
		{2, 4, impl.Ratio{N: 1, D: 2}},
		{6, -4, impl.Ratio{N: -3, D: 2}},
		{-6, 4, impl.Ratio{N: -3, D: 2}},
		{-6, -4, impl.Ratio{N: 3, D: 2}},
		{6, 3, impl.Ratio{N: 2, D: 1}},
		{3, 6, impl.Ratio{N: 1, D: 2}},
		{0, 1, impl.Ratio{D: 1}},
		{0, 9, impl.Ratio{D: 1}},
		{0, -7, impl.Ratio{D: 1}},
		{0, math.MaxInt, impl.Ratio{D: 1}},
		{0, -math.MaxInt, impl.Ratio{D: 1}},
		{0, 0, impl.Ratio{}},
		{5, 0, impl.Ratio{}},
		{-5, 0, impl.Ratio{}},
		{math.MaxInt, 0, impl.Ratio{}},
		{math.MinInt, 0, impl.Ratio{}},
		{math.MinInt, 1, impl.Ratio{}},
		{math.MinInt, -1, impl.Ratio{}},
		{math.MinInt, 16, impl.Ratio{}},
		{math.MinInt, math.MinInt, impl.Ratio{}},
		{math.MinInt, 1 << 62, impl.Ratio{}},
		{0, math.MinInt, impl.Ratio{}},
		{1, math.MinInt, impl.Ratio{}},
		{1 << 62, math.MinInt, impl.Ratio{}},
		{topNum, 1, impl.Ratio{N: topNum, D: 1}},
		{topNum, -1, impl.Ratio{N: -topNum, D: 1}},
		{-topNum, 1, impl.Ratio{N: -topNum, D: 1}},
		{topNum + 1, 1, impl.Ratio{}},
		{-topNum - 1, 1, impl.Ratio{}},
		{topNum + 1, -1, impl.Ratio{}},
		{2 * topNum, 2, impl.Ratio{N: topNum, D: 1}},
		{2 * topNum, -6, impl.Ratio{N: -topNum, D: 3}},
		{2*topNum + 2, 2, impl.Ratio{}},
		{topNum, topDiv, impl.Ratio{N: 1000, D: 1}},
		{1, topDiv, impl.Ratio{N: 1, D: topDiv}},
		{1, -topDiv, impl.Ratio{N: -1, D: topDiv}},
		{1, topDiv + 1, impl.Ratio{}},
		{1, -topDiv - 1, impl.Ratio{}},
		{3, 3 * topDiv, impl.Ratio{N: 1, D: topDiv}},
		{3, -3 * topDiv, impl.Ratio{N: -1, D: topDiv}},
		{3, 3*topDiv + 3, impl.Ratio{}},
		{topNum, topNum, impl.Ratio{N: 1, D: 1}},
		{math.MaxInt, math.MaxInt, impl.Ratio{N: 1, D: 1}},
		{math.MaxInt, -math.MaxInt, impl.Ratio{N: -1, D: 1}},
		{-math.MaxInt, -math.MaxInt, impl.Ratio{N: 1, D: 1}},
		{math.MaxInt, 1, impl.Ratio{}},
		{-math.MaxInt, 1, impl.Ratio{}},
		{math.MaxInt, 49, impl.Ratio{N: math.MaxInt / 49, D: 1}},
		{49, math.MaxInt, impl.Ratio{}},
		{math.MaxInt, 2, impl.Ratio{}},
		{1, math.MaxInt, impl.Ratio{}},
		{-1, math.MaxInt, impl.Ratio{}},
	}
	for _, c := range cases {
		if got := impl.RatioOf(c.n, c.d); got != c.want {
			t.Errorf("RatioOf(%d, %d) = %v", c.n, c.d, got)
		}
	}
}

func TestRatioOfEdges(t *testing.T) {
	for n, d := range edgePairs() {
		if got := impl.RatioOf(n, d); got != lowestTerms(n, d) {
			t.Errorf("RatioOf(%d, %d) = %v", n, d, got)
		}
	}
}

func lowestTerms(n int, d int) impl.Ratio {
	if d == 0 || n == math.MinInt || d == math.MinInt {
		return impl.Ratio{}
	}
	value := big.NewRat(int64(n), int64(d))
	r := impl.Ratio{N: int(value.Num().Int64()), D: int(value.Denom().Int64())}
	if !isValid(r.N, r.D) {
		return impl.Ratio{}
	}
	return r
}

// A valid fraction is made from its terms and from every multiple of them.
func TestRatioOfMultiples(t *testing.T) {
	for n := -30; n <= 30; n++ {
		for d := 1; d <= 30; d++ {
			if !isValid(n, d) {
				continue
			}
			for _, factor := range []int{1, 2, -1, -3, 1000, 1 << 40, -topDiv} {
				if got := impl.RatioOf(n*factor, d*factor); got != (impl.Ratio{N: n, D: d}) {
					t.Errorf("RatioOf(%d, %d) = %v", n*factor, d*factor, got)
				}
			}
		}
	}
}

func TestRatioCmp(t *testing.T) {
	cases := []struct {
		r, s impl.Ratio
		want int
	}{
		{impl.Ratio{N: 1, D: 3}, impl.Ratio{N: 1, D: 3}, 0},
		{impl.Ratio{N: 1, D: 3}, impl.Ratio{N: 1, D: 2}, -1},
		{impl.Ratio{N: 1, D: 2}, impl.Ratio{N: 1, D: 3}, 1},
		{impl.Ratio{N: 2, D: 7}, impl.Ratio{N: 3, D: 11}, 1},
		{impl.Ratio{N: -2, D: 7}, impl.Ratio{N: -3, D: 11}, -1},
		{impl.Ratio{N: -1, D: 2}, impl.Ratio{N: 1, D: 3}, -1},
		{impl.Ratio{N: -1, D: 2}, impl.Ratio{D: 1}, -1},
		{impl.Ratio{D: 1}, impl.Ratio{N: 1, D: topDiv}, -1},
		{impl.Ratio{D: 1}, impl.Ratio{N: -1, D: topDiv}, 1},
		{impl.Ratio{D: 1}, impl.Ratio{D: 1}, 0},
		{impl.Ratio{N: topNum, D: 1}, impl.Ratio{N: -topNum, D: 1}, 1},
		{impl.Ratio{N: topNum, D: 1}, impl.Ratio{N: topNum, D: 3}, 1},
		{impl.Ratio{N: topNum, D: 1}, impl.Ratio{N: topNum - 1, D: 1}, 1},
		{impl.Ratio{N: topNum - 1, D: topDiv}, impl.Ratio{N: 1000, D: 1}, -1},
		{impl.Ratio{N: 1, D: topDiv}, impl.Ratio{N: 1, D: topDiv - 1}, -1},
		{impl.Ratio{N: -1, D: topDiv}, impl.Ratio{N: -1, D: topDiv - 1}, 1},
		{impl.Ratio{N: topDiv - 1, D: topDiv}, impl.Ratio{N: topDiv - 2, D: topDiv - 1}, 1},
		{impl.Ratio{N: 1 - topDiv, D: topDiv}, impl.Ratio{N: 2 - topDiv, D: topDiv - 1}, -1},
		{impl.Ratio{N: topNum - 1, D: topDiv}, impl.Ratio{N: topNum - 1001, D: topDiv - 1}, 1},
		{impl.Ratio{N: 1 << 32, D: 1<<32 + 1}, impl.Ratio{N: 1<<32 - 1, D: 1 << 32}, 1},
		{impl.Ratio{N: 1 << 40, D: 3}, impl.Ratio{N: 1 << 24, D: 1<<40 + 1}, 1},
	}
	for _, c := range cases {
		if got := impl.RatioCmp(c.r, c.s); got != c.want {
			t.Errorf("RatioCmp(%v, %v) = %d", c.r, c.s, got)
		}
		if got := impl.RatioCmp(c.s, c.r); got != -c.want {
			t.Errorf("RatioCmp(%v, %v) = %d", c.s, c.r, got)
		}
	}
}

// Each function of two fractions has no value if one of them is not valid.
func TestRatioPairsNotValid(t *testing.T) {
	some := append(badRatios(), impl.Ratio{D: 1}, impl.Ratio{N: 1, D: 2}, impl.Ratio{N: -5, D: 3}, impl.Ratio{N: topNum, D: 1}, impl.Ratio{N: -topNum, D: 1})
	for _, bad := range badRatios() {
		for _, r := range some {
			if impl.RatioCmp(bad, r) != 0 || impl.RatioCmp(r, bad) != 0 {
				t.Errorf("RatioCmp of %v and %v is not 0", bad, r)
			}
			if impl.RatioMin(bad, r) != (impl.Ratio{}) || impl.RatioMin(r, bad) != (impl.Ratio{}) {
				t.Errorf("RatioMin of %v and %v is not the zero value", bad, r)
			}
			if impl.RatioMax(bad, r) != (impl.Ratio{}) || impl.RatioMax(r, bad) != (impl.Ratio{}) {
				t.Errorf("RatioMax of %v and %v is not the zero value", bad, r)
			}
		}
	}
}

func TestRatioOrder(t *testing.T) {
	valid := edgeRatios()
	values := make([]*big.Rat, len(valid))
	for i, r := range valid {
		values[i] = exact(r)
	}
	for i, r := range valid {
		for j, s := range valid {
			checkOrder(t, r, s, values[i].Cmp(values[j]))
		}
	}
}

func checkOrder(t *testing.T, r impl.Ratio, s impl.Ratio, want int) {
	smaller, greater := r, s
	if want > 0 {
		smaller, greater = s, r
	}
	if got := impl.RatioCmp(r, s); got != want {
		t.Errorf("RatioCmp(%v, %v) = %d", r, s, got)
	}
	if got := impl.RatioMin(r, s); got != smaller {
		t.Errorf("RatioMin(%v, %v) = %v", r, s, got)
	}
	if got := impl.RatioMax(r, s); got != greater {
		t.Errorf("RatioMax(%v, %v) = %v", r, s, got)
	}
}

// Neighbours in a Farey sequence differ by the least amount that their
// denominators allow.
func TestRatioOrderOfNeighbours(t *testing.T) {
	for _, d := range []int{2, 3, 1000, 3037000500, 1 << 32, topDiv - 1, topDiv} {
		for _, whole := range []int{0, 1, -1, 999, -999, topNum/d - 1, -topNum / d} {
			r := impl.Ratio{N: whole*d + d - 1, D: d}
			s := impl.Ratio{N: whole*(d-1) + d - 2, D: d - 1}
			checkOrder(t, s, r, exact(s).Cmp(exact(r)))
			checkOrder(t, r, s, exact(r).Cmp(exact(s)))
			if impl.RatioCmp(s, r) != -1 {
				t.Errorf("%v is not less than %v", s, r)
			}
		}
	}
}

func TestRatioRounding(t *testing.T) {
	cases := []struct {
		r           impl.Ratio
		floor, ceil int
	}{
		{impl.Ratio{D: 1}, 0, 0},
		{impl.Ratio{N: 1, D: 1}, 1, 1},
		{impl.Ratio{N: -1, D: 1}, -1, -1},
		{impl.Ratio{N: 4, D: 1}, 4, 4},
		{impl.Ratio{N: -4, D: 1}, -4, -4},
		{impl.Ratio{N: 1, D: 3}, 0, 1},
		{impl.Ratio{N: -1, D: 3}, -1, 0},
		{impl.Ratio{N: 2, D: 3}, 0, 1},
		{impl.Ratio{N: -2, D: 3}, -1, 0},
		{impl.Ratio{N: 3, D: 2}, 1, 2},
		{impl.Ratio{N: -3, D: 2}, -2, -1},
		{impl.Ratio{N: 17, D: 5}, 3, 4},
		{impl.Ratio{N: -17, D: 5}, -4, -3},
		{impl.Ratio{N: -19, D: 5}, -4, -3},
		{impl.Ratio{N: 1, D: topDiv}, 0, 1},
		{impl.Ratio{N: -1, D: topDiv}, -1, 0},
		{impl.Ratio{N: topDiv - 1, D: topDiv}, 0, 1},
		{impl.Ratio{N: 1 - topDiv, D: topDiv}, -1, 0},
		{impl.Ratio{N: topDiv + 1, D: topDiv}, 1, 2},
		{impl.Ratio{N: -topDiv - 1, D: topDiv}, -2, -1},
		{impl.Ratio{N: topNum, D: 1}, topNum, topNum},
		{impl.Ratio{N: -topNum, D: 1}, -topNum, -topNum},
		{impl.Ratio{N: topNum, D: 3}, 333333333333333333, 333333333333333334},
		{impl.Ratio{N: -topNum, D: 3}, -333333333333333334, -333333333333333333},
		{impl.Ratio{N: topNum - 1, D: topDiv}, 999, 1000},
		{impl.Ratio{N: 1 - topNum, D: topDiv}, -1000, -999},
	}
	for _, c := range cases {
		if floor, ceil := impl.RatioFloor(c.r), impl.RatioCeil(c.r); floor != c.floor || ceil != c.ceil {
			t.Errorf("%v is between %d and %d", c.r, floor, ceil)
		}
	}
	for _, r := range badRatios() {
		if floor, ceil := impl.RatioFloor(r), impl.RatioCeil(r); floor != 0 || ceil != 0 {
			t.Errorf("%v is not valid, but between %d and %d", r, floor, ceil)
		}
	}
}

// The floor is the one integer at most r and less than 1 below it, and the
// ceiling the one at least r and less than 1 above it.
func TestRatioRoundingEdges(t *testing.T) {
	one := big.NewRat(1, 1)
	for _, r := range edgeRatios() {
		value := exact(r)
		below := new(big.Rat).Sub(value, big.NewRat(int64(impl.RatioFloor(r)), 1))
		above := new(big.Rat).Sub(big.NewRat(int64(impl.RatioCeil(r)), 1), value)
		for _, gap := range []*big.Rat{below, above} {
			if gap.Sign() < 0 || gap.Cmp(one) >= 0 {
				t.Errorf("%v is between %d and %d", r, impl.RatioFloor(r), impl.RatioCeil(r))
			}
		}
	}
}

func TestFormatRatio(t *testing.T) {
	cases := map[impl.Ratio]string{
		{D: 1}:                  "0",
		{N: 1, D: 1}:            "1",
		{N: -1, D: 1}:           "-1",
		{N: 12, D: 1}:           "12",
		{N: 1, D: 3}:            "1/3",
		{N: -3, D: 2}:           "-3/2",
		{N: 10, D: 7}:           "10/7",
		{N: 1, D: 10}:           "1/10",
		{N: 1, D: 11}:           "1/11",
		{N: topNum, D: 1}:       "1000000000000000000",
		{N: -topNum, D: 1}:      "-1000000000000000000",
		{N: -topNum, D: 3}:      "-1000000000000000000/3",
		{N: 1, D: topDiv}:       "1/1000000000000000",
		{N: topNum + 1, D: 1}:   "",
		{N: 1, D: topDiv + 1}:   "",
		{N: 1 - topNum, D: 1}:   "-999999999999999999",
		{N: -1, D: topDiv - 1}:  "-1/999999999999999",
		{N: topNum, D: topDiv}:  "",
		{N: -7, D: topDiv - 10}: "-7/999999999999990",
	}
	for r, want := range cases {
		if got := impl.FormatRatio(r); got != want {
			t.Errorf("FormatRatio(%v) = %q", r, got)
		}
	}
	for _, r := range badRatios() {
		if got := impl.FormatRatio(r); got != "" {
			t.Errorf("FormatRatio(%v) = %q", r, got)
		}
	}
}

func TestParseRatio(t *testing.T) {
	good := map[string]impl.Ratio{
		"0":                       {D: 1},
		"1":                       {N: 1, D: 1},
		"-1":                      {N: -1, D: 1},
		"12":                      {N: 12, D: 1},
		"1/3":                     {N: 1, D: 3},
		"-3/2":                    {N: -3, D: 2},
		"10/7":                    {N: 10, D: 7},
		"1/10":                    {N: 1, D: 10},
		"1000000000000000000":     {N: topNum, D: 1},
		"-1000000000000000000":    {N: -topNum, D: 1},
		"1000000000000000000/3":   {N: topNum, D: 3},
		"-1/1000000000000000":     {N: -1, D: topDiv},
		"999999999999999/2":       {N: topDiv - 1, D: 2},
		"-999999999999999999/500": {N: 1 - topNum, D: 500},
	}
	for s, want := range good {
		if r, ok := impl.ParseRatio(s); !ok || r != want {
			t.Errorf("ParseRatio(%q) = %v, %v", s, r, ok)
		}
	}
}

func TestParseRatioNotWritten(t *testing.T) {
	bad := []string{
		"", "/", "//", "1/", "/1", "/2", "1//2", "1/2/", "/1/2", "1/2/3", "1/2/1", "-", "-/2", "1/-", "--1", "--1/2",
		"1/1", "-1/1", "0/1", "0/2", "3/1", "2/4", "-2/4", "4/2", "6/3", "2/2", "100/10", "-0", "-0/1", "-0/2", "0/0", "1/0", "-1/0", "0/-1",
		"1/-2", "-1/-2", "1/-1", "+1", "+1/2", "1/+2", "01", "00", "01/2", "1/02", "1/00", "-01/2", "1/01",
		" 1", "1 ", " 1/2", "1/2 ", "1 /2", "1/ 2", "1\n", "1/2\n", "\n", "1 2", "1:2", "1\\2", "1.5", "1,2", "a", "a/b", "1/a", "a/2", "1e3", "0x1/2",
		"1000000000000000001", "-1000000000000000001", "1000000000000000001/2", "1/1000000000000001", "-1/1000000000000001",
		"1000000000000000000/1000000000000000", "9223372036854775807", "9223372036854775808", "-9223372036854775808", "-9223372036854775808/3",
		"1/9223372036854775807", "1/-9223372036854775808", "1/9223372036854775809", "1/18446744073709551618", "18446744073709551617/2",
		"\xff", "1/\xff", "\x00", "1\x00", "1/2\x00", "\u0661", "1\u20442", "\u00bd", "1/\u0662",
		"1/" + strings.Repeat("0", 3000) + "2", strings.Repeat("9", 3000), strings.Repeat("/", 3000), strings.Repeat("1/", 3000) + "2",
	}
	for _, s := range bad {
		if r, ok := impl.ParseRatio(s); ok || r != (impl.Ratio{}) {
			t.Errorf("ParseRatio(%.40q) = %v, %v", s, r, ok)
		}
	}
}

// Of all short texts, exactly those are fractions that FormatRatio writes.
func TestParseRatioShortTexts(t *testing.T) {
	written := map[string]impl.Ratio{}
	for n := -999; n <= 9999; n++ {
		written[strconv.Itoa(n)] = impl.Ratio{N: n, D: 1}
		for d := 2; d <= 99; d++ {
			if isValid(n, d) {
				written[strconv.Itoa(n)+"/"+strconv.Itoa(d)] = impl.Ratio{N: n, D: d}
			}
		}
	}
	for _, s := range textsUpTo(4, "01234569/-+ \xff") {
		want, wanted := written[s]
		if r, ok := impl.ParseRatio(s); ok != wanted || r != want {
			t.Errorf("ParseRatio(%q) = %v, %v", s, r, ok)
		}
	}
}

// Promise 1: fractions are recovered from their text, and only they have one.
func TestRatiosFromText(t *testing.T) {
	for n, d := range edgePairs() {
		checkFromText(t, impl.Ratio{N: n, D: d})
	}
	for n := -120; n <= 120; n++ {
		for d := -5; d <= 120; d++ {
			checkFromText(t, impl.Ratio{N: n, D: d})
		}
	}
}

func checkFromText(t *testing.T, r impl.Ratio) {
	text := impl.FormatRatio(r)
	got, ok := impl.ParseRatio(text)
	valid := isValid(r.N, r.D)
	if ok != valid || (text != "") != valid || valid && got != r {
		t.Errorf("%v has the text %q and is recovered as %v, %v", r, text, got, ok)
	}
}
