package tests

import (
	"iter"
	"math"
	"math/big"
	"slices"
	"testing"

	"loop.example/g00859/impl"
)

const billion = 1000000000

func ratio(n int, d int) impl.Ratio { return impl.Ratio{N: n, D: d} }

// ratiosOf makes fractions from their terms.
func ratiosOf(terms ...int) []impl.Ratio {
	var list []impl.Ratio
	for i := 0; i < len(terms); i += 2 {
		list = append(list, ratio(terms[i], terms[i+1]))
	}
	return list
}

// asRatio is the zero value for a number that is no valid fraction.
func asRatio(value *big.Rat) impl.Ratio {
	if !value.Num().IsInt64() || !value.Denom().IsInt64() {
		return impl.Ratio{}
	}
	return lowestTerms(int(value.Num().Int64()), int(value.Denom().Int64()))
}

// An operation on two fractions, and another way to reckon it: with integers of
// any size.
type operation struct {
	label string
	call  func(impl.Ratio, impl.Ratio) impl.Ratio
	value func(*big.Rat, *big.Rat, *big.Rat) *big.Rat
}

var (
	sumOperation   = operation{"RatioSum", impl.RatioSum, (*big.Rat).Add}
	diffOperation  = operation{"RatioDiff", impl.RatioDiff, (*big.Rat).Sub}
	timesOperation = operation{"RatioTimes", impl.RatioTimes, (*big.Rat).Mul}
)

func operations() []operation { return []operation{sumOperation, diffOperation, timesOperation} }

func (o operation) reckon(a impl.Ratio, b impl.Ratio) impl.Ratio {
	if !isValid(a.N, a.D) || !isValid(b.N, b.D) || !termsFit(a, b) {
		return impl.Ratio{}
	}
	return asRatio(o.value(new(big.Rat), exact(a), exact(b)))
}

func termsFit(a impl.Ratio, b impl.Ratio) bool {
	for _, factors := range [][2]int{{a.N, b.D}, {b.N, a.D}, {a.D, b.D}, {a.N, b.N}} {
		product := new(big.Int).Mul(big.NewInt(int64(factors[0])), big.NewInt(int64(factors[1])))
		if product.CmpAbs(big.NewInt(topNum)) > 0 {
			return false
		}
	}
	return true
}

// Two fractions with their sum, their difference and their product.
type arithmeticCase struct{ a, b, sum, diff, product impl.Ratio }

func checkArithmetic(t *testing.T, cases []arithmeticCase) {
	for _, c := range cases {
		for i, want := range []impl.Ratio{c.sum, c.diff, c.product} {
			o := operations()[i]
			if got := o.call(c.a, c.b); got != want {
				t.Errorf("%s(%v, %v) = %v, not %v", o.label, c.a, c.b, got, want)
			}
		}
	}
}

func TestArithmetic(t *testing.T) {
	checkArithmetic(t, []arithmeticCase{
		{ratio(0, 1), ratio(0, 1), ratio(0, 1), ratio(0, 1), ratio(0, 1)},
		{ratio(0, 1), ratio(5, 3), ratio(5, 3), ratio(-5, 3), ratio(0, 1)},
		{ratio(-5, 3), ratio(0, 1), ratio(-5, 3), ratio(-5, 3), ratio(0, 1)},
		{ratio(1, 1), ratio(1, 1), ratio(2, 1), ratio(0, 1), ratio(1, 1)},
		{ratio(1, 2), ratio(1, 3), ratio(5, 6), ratio(1, 6), ratio(1, 6)},
		{ratio(1, 3), ratio(1, 2), ratio(5, 6), ratio(-1, 6), ratio(1, 6)},
		{ratio(1, 2), ratio(1, 2), ratio(1, 1), ratio(0, 1), ratio(1, 4)},
		{ratio(1, 2), ratio(-1, 2), ratio(0, 1), ratio(1, 1), ratio(-1, 4)},
		{ratio(1, 2), ratio(-4, 3), ratio(-5, 6), ratio(11, 6), ratio(-2, 3)},
		{ratio(-1, 2), ratio(-4, 3), ratio(-11, 6), ratio(5, 6), ratio(2, 3)},
		{ratio(1, 6), ratio(1, 10), ratio(4, 15), ratio(1, 15), ratio(1, 60)},
		{ratio(5, 6), ratio(6, 5), ratio(61, 30), ratio(-11, 30), ratio(1, 1)},
		{ratio(7, 1), ratio(-3, 1), ratio(4, 1), ratio(10, 1), ratio(-21, 1)},
		{ratio(1, topDiv), ratio(1, 1), ratio(topDiv+1, topDiv), ratio(1-topDiv, topDiv), ratio(1, topDiv)},
		{ratio(1, topDiv), ratio(-999, 1), ratio(1-999*topDiv, topDiv), ratio(1+999*topDiv, topDiv), ratio(-999, topDiv)},
	})
}

// Results at the limits of valid fractions, and beyond them.
func TestArithmeticResultNotValid(t *testing.T) {
	none := impl.Ratio{}
	checkArithmetic(t, []arithmeticCase{
		{ratio(topNum, 1), ratio(0, 1), ratio(topNum, 1), ratio(topNum, 1), ratio(0, 1)},
		{ratio(0, 1), ratio(-topNum, 1), ratio(-topNum, 1), ratio(topNum, 1), ratio(0, 1)},
		{ratio(topNum, 1), ratio(1, 1), none, ratio(topNum-1, 1), ratio(topNum, 1)},
		{ratio(topNum, 1), ratio(-1, 1), ratio(topNum-1, 1), none, ratio(-topNum, 1)},
		{ratio(-1, 1), ratio(topNum, 1), ratio(topNum-1, 1), none, ratio(-topNum, 1)},
		{ratio(-1, 1), ratio(-topNum, 1), none, ratio(topNum-1, 1), ratio(topNum, 1)},
		{ratio(topNum-1, 1), ratio(1, 1), ratio(topNum, 1), ratio(topNum-2, 1), ratio(topNum-1, 1)},
		{ratio(1-topNum, 1), ratio(1, 1), ratio(2-topNum, 1), ratio(-topNum, 1), ratio(1-topNum, 1)},
		{ratio(topNum/2, 1), ratio(1, 2), none, ratio(topNum-1, 2), ratio(topNum/4, 1)},
		{ratio(topNum/2, 1), ratio(-1, 2), ratio(topNum-1, 2), none, ratio(-topNum/4, 1)},
		{ratio(1, topDiv), ratio(1, 1000), ratio(topDiv/1000+1, topDiv), ratio(1-topDiv/1000, topDiv), none},
		{ratio(1, topDiv), ratio(1, 999), none, none, none},
		{ratio(1, topDiv), ratio(1, 2), ratio(topDiv/2+1, topDiv), ratio(1-topDiv/2, topDiv), none},
		{ratio(1, topDiv), ratio(1, 3), none, none, none},
		{ratio(3, topDiv), ratio(1, 3), none, none, ratio(1, topDiv)},
		{ratio(1, 31622776), ratio(1, 31622776), ratio(1, 15811388), ratio(0, 1), ratio(1, 31622776*31622776)},
		{ratio(1, 31622777), ratio(1, 31622777), ratio(2, 31622777), ratio(0, 1), none},
	})
}

func TestArithmeticProductsAtLimit(t *testing.T) {
	none := impl.Ratio{}
	checkArithmetic(t, []arithmeticCase{
		{ratio(billion, 1), ratio(1, billion), none, ratio(topNum-1, billion), ratio(1, 1)},
		{ratio(billion, 1), ratio(-1, billion), ratio(topNum-1, billion), none, ratio(-1, 1)},
		{ratio(1, billion), ratio(billion, 1), none, ratio(1-topNum, billion), ratio(1, 1)},
		{ratio(-1, billion), ratio(-billion, 1), none, ratio(topNum-1, billion), ratio(1, 1)},
		{ratio(1, billion), ratio(1, billion), ratio(1, billion/2), ratio(0, 1), none},
		{ratio(billion, 1), ratio(billion, 1), ratio(2*billion, 1), ratio(0, 1), ratio(topNum, 1)},
		{ratio(billion, 1), ratio(-billion, 1), ratio(0, 1), ratio(2*billion, 1), ratio(-topNum, 1)},
		{ratio(-billion, 1), ratio(-billion, 1), ratio(-2*billion, 1), ratio(0, 1), ratio(topNum, 1)},
	})
}

// A product beyond MaxNum counts for each operation: also if the operation does
// not need it, if the result would be valid, or if the product wraps around to a
// small number.
func TestArithmeticProductsBeyondLimit(t *testing.T) {
	pairs := [][2]impl.Ratio{
		{ratio(billion+1, 1), ratio(1, billion)},
		{ratio(billion, 1), ratio(1, billion+1)},
		{ratio(-billion-1, 1), ratio(1, billion)},
		{ratio(1, topDiv), ratio(1001, 1)},
		{ratio(1, topDiv), ratio(topDiv, 1)},
		{ratio(1, billion+1), ratio(1, billion)},
		{ratio(1, 2*billion), ratio(1, billion)},
		{ratio(1, 10*billion), ratio(1, 10*billion)},
		{ratio(1, 10*billion), ratio(100000, billion+7)},
		{ratio(1, topDiv), ratio(1, 1001)},
		{ratio(1, topDiv), ratio(1, topDiv)},
		{ratio(billion+1, 1), ratio(billion, 1)},
		{ratio(billion+1, 1), ratio(-billion, 1)},
		{ratio(-billion-1, 1), ratio(-billion, 1)},
		{ratio(topNum, 1), ratio(2, 1)},
		{ratio(topNum, 1), ratio(-2, 1)},
		{ratio(-topNum, 1), ratio(1, 2)},
		{ratio(topNum, 1), ratio(topNum, 1)},
		{ratio(topNum, 1), ratio(-topNum, 1)},
		{ratio(1<<33, 1), ratio(1<<31, 1)},
		{ratio(1<<32, 1), ratio(1<<32, 1)},
		{ratio(1<<32, 1), ratio(1<<31, 1)},
		{ratio(-1<<32, 1), ratio(1<<31, 1)},
		{ratio(1<<32, 1), ratio(1, 1<<32)},
		{ratio(1, 1<<32), ratio(3, 1<<32)},
		{ratio(6074001000, 1), ratio(6074001000, 1)},
	}
	none := impl.Ratio{}
	for _, pair := range pairs {
		checkArithmetic(t, []arithmeticCase{{pair[0], pair[1], none, none, none}, {pair[1], pair[0], none, none, none}})
	}
}

func TestArithmeticNotValid(t *testing.T) {
	none := impl.Ratio{}
	for _, bad := range badRatios() {
		for _, r := range append(badRatios(), ratiosOf(0, 1, 1, 1, 1, 2, -5, 3, topNum, 1, 1, topDiv)...) {
			checkArithmetic(t, []arithmeticCase{{bad, r, none, none, none}, {r, bad, none, none, none}})
		}
		if got := impl.RatioInverse(bad); got != none {
			t.Errorf("RatioInverse(%v) = %v", bad, got)
		}
	}
}

// Fractions with small terms, and with terms whose products or results are near
// a limit.
func arithmeticRatios() []impl.Ratio {
	above := []int{0, 1, 2, 3, 6, 999, 1000, 1001, 31622776, 31622777, billion - 1, billion, billion + 1, 1 << 31, 1 << 32, 1<<32 + 1, 1 << 33, 3037000500, topDiv - 1, topDiv, topDiv + 1, topNum / 2, topNum/2 + 1, topNum - 1, topNum}
	below := []int{1, 2, 3, 6, 1000, 1001, 31622777, billion - 1, billion, billion + 1, 1 << 31, 1 << 32, topDiv / 2, topDiv - 1, topDiv}
	var list []impl.Ratio
	for _, n := range above {
		for _, d := range below {
			if isValid(n, d) {
				list = append(list, ratio(n, d), ratio(-n, d))
			}
		}
	}
	return list
}

func TestArithmeticByOtherReckoning(t *testing.T) {
	list := arithmeticRatios()
	for _, a := range list {
		for _, b := range list {
			for _, o := range operations() {
				if got, want := o.call(a, b), o.reckon(a, b); got != want {
					t.Fatalf("%s(%v, %v) = %v, not %v", o.label, a, b, got, want)
				}
			}
		}
	}
}

func TestRatioInverse(t *testing.T) {
	cases := map[impl.Ratio]impl.Ratio{
		ratio(0, 1):             {},
		ratio(1, 1):             ratio(1, 1),
		ratio(-1, 1):            ratio(-1, 1),
		ratio(1, 2):             ratio(2, 1),
		ratio(-1, 2):            ratio(-2, 1),
		ratio(7, 1):             ratio(1, 7),
		ratio(-7, 1):            ratio(-1, 7),
		ratio(2, 3):             ratio(3, 2),
		ratio(-2, 3):            ratio(-3, 2),
		ratio(1, topDiv):        ratio(topDiv, 1),
		ratio(-1, topDiv):       ratio(-topDiv, 1),
		ratio(topDiv, 1):        ratio(1, topDiv),
		ratio(-topDiv, 1):       ratio(-1, topDiv),
		ratio(topDiv-1, 7):      ratio(7, topDiv-1),
		ratio(1-topDiv, topDiv): ratio(-topDiv, topDiv-1),
		ratio(topDiv+1, 1):      {},
		ratio(-topDiv-1, 1):     {},
		ratio(topDiv+1, topDiv): {},
		ratio(topNum, 1):        {},
		ratio(-topNum, 1):       {},
		ratio(topNum, 3):        {},
		ratio(1-topNum, 1000):   {},
	}
	for r, want := range cases {
		if got := impl.RatioInverse(r); got != want {
			t.Errorf("RatioInverse(%v) = %v, not %v", r, got, want)
		}
	}
	for _, r := range edgeRatios() {
		want := impl.Ratio{}
		if r.N != 0 {
			want = asRatio(new(big.Rat).Inv(exact(r)))
		}
		if got := impl.RatioInverse(r); got != want {
			t.Errorf("RatioInverse(%v) = %v, not %v", r, got, want)
		}
	}
}

// Promise 1: the laws of arithmetic.
func TestLawsOfArithmetic(t *testing.T) {
	var list []impl.Ratio
	for n := -5; n <= 5; n++ {
		for d := 1; d <= 4; d++ {
			if isValid(n, d) {
				list = append(list, ratio(n, d))
			}
		}
	}
	for _, a := range list {
		checkLawsOfOne(t, a)
		for _, b := range list {
			checkLawsOfTwo(t, a, b)
			for _, c := range list {
				checkLawsOfThree(t, a, b, c)
			}
		}
	}
}

func checkLawsOfOne(t *testing.T, a impl.Ratio) {
	zero, one := ratio(0, 1), ratio(1, 1)
	if impl.RatioSum(a, zero) != a || impl.RatioDiff(a, zero) != a || impl.RatioDiff(a, a) != zero {
		t.Errorf("sums and differences of %v and 0 break a law", a)
	}
	if impl.RatioTimes(a, one) != a || impl.RatioTimes(a, zero) != zero || impl.RatioSum(a, a) != impl.RatioTimes(a, ratio(2, 1)) {
		t.Errorf("products of %v with 0, 1 and 2 break a law", a)
	}
	if inverse := impl.RatioInverse(a); a != zero && (impl.RatioTimes(a, inverse) != one || impl.RatioInverse(inverse) != a) {
		t.Errorf("the inverse of %v breaks a law", a)
	}
}

func checkLawsOfTwo(t *testing.T, a impl.Ratio, b impl.Ratio) {
	if impl.RatioSum(a, b) != impl.RatioSum(b, a) || impl.RatioTimes(a, b) != impl.RatioTimes(b, a) {
		t.Errorf("%v and %v cannot be exchanged", a, b)
	}
	if impl.RatioSum(impl.RatioDiff(a, b), b) != a || impl.RatioDiff(impl.RatioSum(a, b), b) != a || impl.RatioDiff(a, b) != impl.RatioTimes(impl.RatioDiff(b, a), ratio(-1, 1)) {
		t.Errorf("the difference of %v and %v breaks a law", a, b)
	}
	if b.N != 0 && impl.RatioTimes(impl.RatioTimes(a, b), impl.RatioInverse(b)) != a {
		t.Errorf("the product of %v and %v breaks a law", a, b)
	}
}

func checkLawsOfThree(t *testing.T, a impl.Ratio, b impl.Ratio, c impl.Ratio) {
	sum := impl.RatioSum(b, c)
	if impl.RatioSum(impl.RatioSum(a, b), c) != impl.RatioSum(a, sum) || impl.RatioTimes(impl.RatioTimes(a, b), c) != impl.RatioTimes(a, impl.RatioTimes(b, c)) {
		t.Errorf("%v, %v and %v cannot be taken together in both ways", a, b, c)
	}
	if impl.RatioTimes(a, sum) != impl.RatioSum(impl.RatioTimes(a, b), impl.RatioTimes(a, c)) {
		t.Errorf("%v times the sum of %v and %v is not the sum of the products", a, b, c)
	}
}

func isNode(n impl.Net, v int) bool { return v >= 0 && v < n.Nodes }

func TestResistanceOf(t *testing.T) {
	path := netOf(3, 2, 1, 0, 2, 1, 1, 2, 2)
	triangle := netOf(3, 3, 7, 0, 1, 1, 0, 2, 2, 1, 2, 3)
	ring := netOf(5, 1, 1, 0, 1, 1, 0, 4, 1, 1, 2, 1, 2, 3, 1, 3, 4, 1)
	cases := []struct {
		n    impl.Net
		a, b int
		want impl.Ratio
	}{
		{netOf(1, 1, 1), 0, 0, ratio(0, 1)},
		{netOf(1, 1, 1000), 0, 0, ratio(0, 1)},
		{netOf(2, 2, 1, 0, 1, 1), 0, 1, ratio(1, 1)},
		{netOf(2, 1, 1, 0, 1, 200), 0, 1, ratio(1, 200)},
		{netOf(2, 1, 1, 0, 1, 200), 1, 1, ratio(0, 1)},
		{netOf(2, 2, 1000, 0, 1, 1), 1, 0, ratio(1000, 1)},
		{netOf(2, 2, 1000, 0, 1, 200), 1, 0, ratio(5, 1)},
		{path, 0, 1, ratio(3, 2)},
		{path, 1, 0, ratio(3, 2)},
		{path, 0, 2, ratio(1, 1)},
		{path, 2, 1, ratio(1, 2)},
		{path, 2, 2, ratio(0, 1)},
		{triangle, 0, 1, ratio(35, 11)},
		{triangle, 2, 0, ratio(28, 11)},
		{triangle, 1, 2, ratio(21, 11)},
		{triangle, 1, 1, ratio(0, 1)},
		{ring, 0, 1, ratio(4, 5)},
		{ring, 4, 0, ratio(4, 5)},
		{ring, 0, 2, ratio(6, 5)},
		{ring, 3, 0, ratio(6, 5)},
		{netOf(4, 2, 1, 0, 2, 1, 0, 3, 1, 1, 2, 1, 1, 3, 1, 2, 3, 5), 0, 1, ratio(1, 1)},
		{netOf(4, 2, 1, 0, 2, 1, 0, 3, 1, 1, 2, 1, 1, 3, 1, 2, 3, 5), 2, 3, ratio(1, 6)},
		{netOf(5, 2, 1000, 0, 1, 1, 1, 2, 1, 2, 3, 1, 3, 4, 1), 0, 4, ratio(4000, 1)},
		{netOf(5, 1, 9, 0, 4, 10, 1, 4, 20, 2, 4, 30, 3, 4, 40), 3, 1, ratio(27, 40)},
		{sameWeights(5, 1), 0, 4, ratio(2, 5)},
		{sameWeights(5, 200), 3, 1, ratio(1, 500)},
		{sameWeights(5, 200), 4, 4, ratio(0, 1)},
		{sameWeights(4, 1), 2, 1, ratio(1, 2)},
	}
	for _, c := range cases {
		if got, ok := impl.ResistanceOf(c.n, c.a, c.b); !ok || got != c.want {
			t.Errorf("ResistanceOf(%v, %d, %d) = %v, %v", c.n, c.a, c.b, got, ok)
		}
	}
}

func TestPotentialsOf(t *testing.T) {
	path := netOf(3, 2, 1, 0, 2, 1, 1, 2, 2)
	triangle := netOf(3, 3, 7, 0, 1, 1, 0, 2, 2, 1, 2, 3)
	long := netOf(4, 2, 9, 0, 1, 5, 1, 2, 7, 2, 3, 9)
	bridge := netOf(4, 2, 1, 0, 2, 1, 0, 3, 1, 1, 2, 1, 1, 3, 1, 2, 3, 5)
	star := netOf(5, 1, 1000, 0, 1, 200, 0, 2, 200, 0, 3, 200, 0, 4, 200)
	cases := []struct {
		n    impl.Net
		a, b int
		want []impl.Ratio
	}{
		{netOf(2, 1, 1, 0, 1, 200), 0, 1, ratiosOf(1, 200, 0, 1)},
		{netOf(2, 1, 1, 0, 1, 200), 1, 0, ratiosOf(0, 1, 1, 200)},
		{netOf(2, 2, 1000, 0, 1, 1), 0, 1, ratiosOf(1000, 1, 0, 1)},
		{path, 0, 1, ratiosOf(3, 2, 0, 1, 1, 2)},
		{path, 1, 0, ratiosOf(0, 1, 3, 2, 1, 1)},
		{path, 2, 1, ratiosOf(1, 2, 0, 1, 1, 2)},
		{path, 1, 2, ratiosOf(0, 1, 1, 2, 0, 1)},
		{path, 0, 2, ratiosOf(1, 1, 0, 1, 0, 1)},
		{triangle, 0, 1, ratiosOf(35, 11, 0, 1, 14, 11)},
		{triangle, 1, 0, ratiosOf(0, 1, 35, 11, 21, 11)},
		{triangle, 2, 1, ratiosOf(14, 11, 0, 1, 21, 11)},
		{long, 0, 3, ratiosOf(143, 35, 16, 7, 1, 1, 0, 1)},
		{long, 2, 1, ratiosOf(0, 1, 0, 1, 9, 7, 9, 7)},
		{bridge, 0, 1, ratiosOf(1, 1, 0, 1, 1, 2, 1, 2)},
		{bridge, 3, 2, ratiosOf(1, 12, 1, 12, 0, 1, 1, 6)},
		{star, 1, 2, ratiosOf(5, 1, 10, 1, 0, 1, 5, 1, 5, 1)},
		{star, 0, 4, ratiosOf(5, 1, 5, 1, 5, 1, 5, 1, 0, 1)},
		{sameWeights(5, 200), 3, 1, ratiosOf(1, 1000, 0, 1, 1, 1000, 1, 500, 1, 1000)},
	}
	for _, c := range cases {
		if got, ok := impl.PotentialsOf(c.n, c.a, c.b); !ok || !slices.Equal(got, c.want) {
			t.Errorf("PotentialsOf(%v, %d, %d) = %v, %v", c.n, c.a, c.b, got, ok)
		}
	}
}

func TestCurrentOn(t *testing.T) {
	path := netOf(3, 2, 4, 0, 2, 1, 1, 2, 2)
	triangle := netOf(3, 3, 7, 0, 1, 1, 0, 2, 2, 1, 2, 3)
	bridge := netOf(4, 2, 1, 0, 2, 1, 0, 3, 1, 1, 2, 1, 1, 3, 1, 2, 3, 5)
	cases := []struct {
		n          impl.Net
		a, b, x, y int
		want       impl.Ratio
	}{
		{netOf(2, 1, 1000, 0, 1, 7), 0, 1, 0, 1, ratio(1, 1)},
		{netOf(2, 1, 1000, 0, 1, 7), 0, 1, 1, 0, ratio(-1, 1)},
		{netOf(2, 1, 1000, 0, 1, 7), 1, 0, 0, 1, ratio(-1, 1)},
		{netOf(2, 1, 1000, 0, 1, 7), 1, 0, 1, 1, ratio(0, 1)},
		{path, 0, 1, 0, 2, ratio(1, 1)},
		{path, 0, 1, 1, 2, ratio(-1, 1)},
		{path, 0, 1, 0, 1, ratio(0, 1)},
		{path, 0, 1, 0, 0, ratio(0, 1)},
		{path, 0, 1, 2, 2, ratio(0, 1)},
		{path, 2, 1, 0, 2, ratio(0, 1)},
		{triangle, 0, 1, 0, 1, ratio(5, 11)},
		{triangle, 0, 1, 0, 2, ratio(6, 11)},
		{triangle, 0, 1, 2, 1, ratio(6, 11)},
		{triangle, 0, 1, 1, 2, ratio(-6, 11)},
		{triangle, 0, 1, 1, 1, ratio(0, 1)},
		{triangle, 2, 0, 0, 1, ratio(-3, 11)},
		{bridge, 0, 1, 2, 3, ratio(0, 1)},
		{bridge, 0, 1, 0, 3, ratio(1, 2)},
		{bridge, 0, 1, 0, 1, ratio(0, 1)},
		{bridge, 2, 3, 2, 3, ratio(5, 6)},
		{bridge, 2, 3, 0, 1, ratio(0, 1)},
		{bridge, 2, 3, 0, 2, ratio(-1, 12)},
		{sameWeights(5, 200), 0, 4, 0, 4, ratio(2, 5)},
		{sameWeights(5, 200), 0, 4, 3, 0, ratio(-1, 5)},
		{sameWeights(5, 200), 0, 4, 1, 2, ratio(0, 1)},
	}
	for _, c := range cases {
		if got, ok := impl.CurrentOn(c.n, c.a, c.b, c.x, c.y); !ok || got != c.want {
			t.Errorf("CurrentOn(%v, %d, %d, %d, %d) = %v, %v", c.n, c.a, c.b, c.x, c.y, got, ok)
		}
	}
}

// Promise 2: resistances are ratios of the sums over forests and over trees,
// here listed one by one.
func TestResistancesOfAllNets(t *testing.T) {
	for n := range allNets() {
		var forests []forest
		trees := 0
		if isValidNet(n) {
			forests = slices.Collect(forestsOf(n, 2))
			for f := range forestsOf(n, 1) {
				trees += f.product
			}
		}
		for a := -1; a <= impl.MaxNodes; a++ {
			for b := -1; b <= impl.MaxNodes; b++ {
				want, wanted := impl.Ratio{}, isValidNet(n) && isNode(n, a) && isNode(n, b)
				if wanted {
					want = lowestTerms(n.Scale*separating(forests, a, b), trees)
				}
				if got, ok := impl.ResistanceOf(n, a, b); ok != wanted || got != want {
					t.Fatalf("ResistanceOf(%v, %d, %d) = %v, %v, not %v, %v", n, a, b, got, ok, want, wanted)
				}
			}
		}
	}
}

func separating(forests []forest, a int, b int) int {
	sum := 0
	for _, f := range forests {
		if !f.joins(a, b) {
			sum += f.product
		}
	}
	return sum
}

// Promise 2: the law of Kirchhoff for the nodes, together with the potential of
// b, allows no other potentials.
func TestPotentialsOfAllNets(t *testing.T) {
	for n := range allNets() {
		for a := -1; a <= impl.MaxNodes; a++ {
			for b := -1; b <= impl.MaxNodes; b++ {
				got, ok := impl.PotentialsOf(n, a, b)
				wanted := isValidNet(n) && isNode(n, a) && isNode(n, b) && a != b
				if ok != wanted || !wanted && len(got) != 0 {
					t.Fatalf("PotentialsOf(%v, %d, %d) = %v, %v", n, a, b, got, ok)
				}
				if wanted {
					checkPotentials(t, n, a, b, got)
				}
			}
		}
	}
}

func checkPotentials(t *testing.T, n impl.Net, a int, b int, p []impl.Ratio) {
	if len(p) != n.Nodes || slices.ContainsFunc(p, func(r impl.Ratio) bool { return !isValid(r.N, r.D) }) {
		t.Fatalf("PotentialsOf(%v, %d, %d) = %v has not one valid fraction for each node", n, a, b, p)
	}
	if r, _ := impl.ResistanceOf(n, a, b); p[a] != r || p[b] != ratio(0, 1) {
		t.Errorf("PotentialsOf(%v, %d, %d) = %v does not go from the resistance to 0", n, a, b, p)
	}
	for x := range n.Nodes {
		sum := new(big.Rat)
		for y := range n.Nodes {
			sum.Add(sum, exactCurrent(n, p, x, y))
		}
		if sum.Cmp(comingIn(a, b, x)) != 0 {
			t.Errorf("with PotentialsOf(%v, %d, %d) = %v, the current %v leaves the node %d", n, a, b, p, sum, x)
		}
	}
}

// exactCurrent is the law of Ohm, for the wire between two nodes.
func exactCurrent(n impl.Net, p []impl.Ratio, x int, y int) *big.Rat {
	drop := new(big.Rat).Sub(exact(p[x]), exact(p[y]))
	return drop.Mul(drop, big.NewRat(int64(tableOf(n)[x][y]), int64(n.Scale)))
}

func comingIn(a int, b int, x int) *big.Rat {
	switch x {
	case a:
		return big.NewRat(1, 1)
	case b:
		return big.NewRat(-1, 1)
	}
	return new(big.Rat)
}

// Promise 2: currents obey the law of Ohm, and the sum of the currents at each
// node is what comes in there. A current has a value also where the potentials
// have no RatioDiff.
func TestCurrentsOfAllNets(t *testing.T) {
	beyond := 0
	for n := range allNets() {
		for a := range n.Nodes {
			for b := range n.Nodes {
				if p, ok := impl.PotentialsOf(n, a, b); ok {
					beyond += checkCurrents(t, n, a, b, p)
				}
			}
		}
	}
	if beyond == 0 {
		t.Error("all potentials have a RatioDiff")
	}
}

func checkCurrents(t *testing.T, n impl.Net, a int, b int, p []impl.Ratio) int {
	beyond := 0
	for x := range n.Nodes {
		sum := new(big.Rat)
		for y := range n.Nodes {
			got, ok := impl.CurrentOn(n, a, b, x, y)
			if !ok || !isValid(got.N, got.D) || exact(got).Cmp(exactCurrent(n, p, x, y)) != 0 {
				t.Fatalf("CurrentOn(%v, %d, %d, %d, %d) = %v, %v for the potentials %v", n, a, b, x, y, got, ok, p)
			}
			sum.Add(sum, exact(got))
			if got.N != 0 && impl.RatioDiff(p[x], p[y]) == (impl.Ratio{}) {
				beyond++
			}
		}
		if sum.Cmp(comingIn(a, b, x)) != 0 {
			t.Errorf("in %v with a current from %d to %d, the current %v leaves the node %d", n, a, b, sum, x)
		}
	}
	return beyond
}

// Promise 2: the law of Kirchhoff for each circle of three wires, with the
// resistance of each wire.
func TestCirclesOfAllNets(t *testing.T) {
	for n := range allNets() {
		table := tableOf(n)
		for x := range n.Nodes {
			for y := range x {
				for z := range y {
					if isValidNet(n) && table[x][y] > 0 && table[y][z] > 0 && table[x][z] > 0 {
						checkCircle(t, n, []int{x, y, z, x})
					}
				}
			}
		}
	}
}

func checkCircle(t *testing.T, n impl.Net, circle []int) {
	for a := 1; a < n.Nodes; a++ {
		sum := new(big.Rat)
		for i, x := range circle[:3] {
			current, _ := impl.CurrentOn(n, a, 0, x, circle[i+1])
			resistance := big.NewRat(int64(n.Scale), int64(tableOf(n)[x][circle[i+1]]))
			sum.Add(sum, resistance.Mul(resistance, exact(current)))
		}
		if sum.Sign() != 0 {
			t.Errorf("in %v with a current from %d to 0, the potential changes by %v around %v", n, a, sum, circle)
		}
	}
}

// The wires of all trees together are one less than the nodes: so is the sum of
// the conductances of all wires times the resistances between their ends.
func TestResistancesOfWires(t *testing.T) {
	for n := range allNets() {
		if !isValidNet(n) {
			continue
		}
		sum := new(big.Rat)
		for _, w := range n.Wires {
			r, _ := impl.ResistanceOf(n, w.A, w.B)
			sum.Add(sum, new(big.Rat).Mul(exact(r), big.NewRat(int64(w.W), int64(n.Scale))))
		}
		if sum.Cmp(big.NewRat(int64(n.Nodes-1), 1)) != 0 {
			t.Errorf("the wires of %v have the sum %v", n, sum)
		}
	}
}

// Terminals have no influence, and the scale none on currents.
func TestResistOfEndsAndScale(t *testing.T) {
	one := completeNet(5, 1, 1)
	r, _ := impl.ResistanceOf(one, 3, 1)
	p, _ := impl.PotentialsOf(one, 3, 1)
	current, _ := impl.CurrentOn(one, 3, 1, 4, 2)
	for ends := 1; ends <= 5; ends++ {
		for _, scale := range []int{1, 2, 7, 999, 1000} {
			n := completeNet(5, ends, scale)
			factor := ratio(scale, 1)
			if got, ok := impl.ResistanceOf(n, 3, 1); !ok || got != timesOperation.reckon(r, factor) {
				t.Errorf("ResistanceOf(%v, 3, 1) = %v, %v", n, got, ok)
			}
			if got, ok := impl.CurrentOn(n, 3, 1, 4, 2); !ok || got != current {
				t.Errorf("CurrentOn(%v, 3, 1, 4, 2) = %v, %v", n, got, ok)
			}
			got, ok := impl.PotentialsOf(n, 3, 1)
			if !ok || !slices.EqualFunc(got, p, func(v impl.Ratio, w impl.Ratio) bool { return v == timesOperation.reckon(w, factor) }) {
				t.Errorf("PotentialsOf(%v, 3, 1) = %v, %v", n, got, ok)
			}
		}
	}
}

func TestResistNodesNotValid(t *testing.T) {
	for _, n := range goodNets() {
		for _, bad := range []int{math.MinInt, -1 << 32, -2, -1, n.Nodes, n.Nodes + 1, 1 << 32, math.MaxInt} {
			for _, v := range []int{0, n.Nodes - 1, bad} {
				checkNoResist(t, n, bad, v)
				checkNoResist(t, n, v, bad)
				checkNoCurrent(t, n, 0, n.Nodes-1, bad, v)
				checkNoCurrent(t, n, 0, n.Nodes-1, v, bad)
			}
		}
		for v := range n.Nodes {
			if got, ok := impl.PotentialsOf(n, v, v); ok || len(got) != 0 {
				t.Errorf("PotentialsOf(%v, %d, %d) = %v, %v", n, v, v, got, ok)
			}
			checkNoCurrent(t, n, v, v, 0, n.Nodes-1)
			checkNoCurrent(t, n, v, v, v, v)
		}
	}
}

// checkNoResist is for nodes between which no function has a value.
func checkNoResist(t *testing.T, n impl.Net, a int, b int) {
	if got, ok := impl.ResistanceOf(n, a, b); ok || got != (impl.Ratio{}) {
		t.Errorf("ResistanceOf(%.400v, %d, %d) = %v, %v", n, a, b, got, ok)
	}
	if got, ok := impl.PotentialsOf(n, a, b); ok || len(got) != 0 {
		t.Errorf("PotentialsOf(%.400v, %d, %d) = %v, %v", n, a, b, got, ok)
	}
	for x := range 2 {
		checkNoCurrent(t, n, a, b, 0, x)
	}
}

func checkNoCurrent(t *testing.T, n impl.Net, a int, b int, x int, y int) {
	if got, ok := impl.CurrentOn(n, a, b, x, y); ok || got != (impl.Ratio{}) {
		t.Errorf("CurrentOn(%.400v, %d, %d, %d, %d) = %v, %v", n, a, b, x, y, got, ok)
	}
}

func TestResistNetNotValid(t *testing.T) {
	for _, n := range badNets() {
		for a := range impl.MaxNodes + 1 {
			for b := range impl.MaxNodes + 1 {
				checkNoResist(t, n, a, b)
			}
		}
		for length := range impl.MaxNodes + 3 {
			checkPower(t, n, slices.Repeat(ratiosOf(0, 1), length), impl.Ratio{}, false)
		}
	}
}

func checkPower(t *testing.T, n impl.Net, p []impl.Ratio, want impl.Ratio, wanted bool) {
	t.Helper()
	if got, ok := impl.PowerOf(n, p); ok != wanted || got != want {
		t.Errorf("PowerOf(%.400v, %v) = %v, %v, not %v, %v", n, p, got, ok, want, wanted)
	}
}

func TestPowerOf(t *testing.T) {
	path := netOf(3, 2, 1, 0, 2, 1, 1, 2, 2)
	triangle := netOf(3, 3, 7, 0, 1, 1, 0, 2, 2, 1, 2, 3)
	cases := []struct {
		n    impl.Net
		p    []impl.Ratio
		want impl.Ratio
	}{
		{netOf(1, 1, 1), ratiosOf(0, 1), ratio(0, 1)},
		{netOf(1, 1, 1000), ratiosOf(-topNum, 3), ratio(0, 1)},
		{netOf(2, 1, 1, 0, 1, 1), ratiosOf(5, 1, 2, 1), ratio(9, 1)},
		{netOf(2, 1, 1, 0, 1, 1), ratiosOf(2, 1, 5, 1), ratio(9, 1)},
		{netOf(2, 1, 1, 0, 1, 1), ratiosOf(5, 1, 5, 1), ratio(0, 1)},
		{netOf(2, 2, 6, 0, 1, 4), ratiosOf(1, 2, -1, 3), ratio(25, 54)},
		{netOf(2, 2, 1000, 0, 1, 200), ratiosOf(5, 1, 0, 1), ratio(5, 1)},
		{path, ratiosOf(3, 2, 0, 1, 1, 2), ratio(3, 2)},
		{path, ratiosOf(0, 1, 0, 1, 0, 1), ratio(0, 1)},
		{path, ratiosOf(1, 1, 2, 1, 4, 1), ratio(17, 1)},
		{path, ratiosOf(-1, 2, 1, 3, 0, 1), ratio(17, 36)},
		{triangle, ratiosOf(35, 11, 0, 1, 14, 11), ratio(35, 11)},
		{triangle, ratiosOf(1, 1, 2, 1, 4, 1), ratio(31, 7)},
		{triangle, ratiosOf(4, 1, 2, 1, 1, 1), ratio(25, 7)},
		{sameWeights(5, 200), ratiosOf(1, 1, 0, 1, 0, 1, 0, 1, -1, 1), ratio(2000, 1)},
	}
	for _, c := range cases {
		checkPower(t, c.n, c.p, c.want, true)
	}
}

func TestPowerOfListsNotValid(t *testing.T) {
	for _, n := range goodNets() {
		for length := range n.Nodes + 3 {
			p := slices.Repeat(ratiosOf(0, 1), length)
			if length == n.Nodes {
				checkPower(t, n, p, ratio(0, 1), true)
			} else {
				checkPower(t, n, p, impl.Ratio{}, false)
				checkPower(t, n, slices.Repeat(ratiosOf(0, 1), 9)[:length], impl.Ratio{}, false)
			}
		}
		checkPower(t, n, nil, impl.Ratio{}, false)
		for _, bad := range badRatios() {
			for v := range n.Nodes {
				p := slices.Repeat(ratiosOf(0, 1), n.Nodes)
				p[v] = bad
				checkPower(t, n, p, impl.Ratio{}, false)
			}
			checkPower(t, n, slices.Repeat([]impl.Ratio{bad}, n.Nodes), impl.Ratio{}, false)
		}
	}
}

// The fractions on the way to the power are at a limit, or beyond it.
func TestPowerOfLimits(t *testing.T) {
	two := netOf(2, 2, 1, 0, 1, 1)
	path := netOf(3, 2, 1, 0, 2, 1, 1, 2, 1)
	cases := []struct {
		label string
		n     impl.Net
		p     []impl.Ratio
		want  impl.Ratio
	}{
		{"a difference that is too great", two, ratiosOf(topNum, 1, -1, 1), impl.Ratio{}},
		{"a difference whose divisor is too great", two, ratiosOf(1, billion, 1, billion-1), impl.Ratio{}},
		{"a difference of 0 with a product at the limit", two, ratiosOf(billion, 1, billion, 1), ratio(0, 1)},
		{"a difference of 0 with a product that is too great", two, ratiosOf(billion+1, 1, billion+1, 1), impl.Ratio{}},
		{"a difference of 0 with divisors whose product is too great", two, ratiosOf(1, billion+1, 1, billion+1), impl.Ratio{}},
		{"a square at the limit", two, ratiosOf(0, 1, billion, 1), ratio(topNum, 1)},
		{"a square that is too great", two, ratiosOf(billion+1, 1, 0, 1), impl.Ratio{}},
		{"a square that wraps around", two, ratiosOf(1<<32, 1, 0, 1), impl.Ratio{}},
		{"a square whose divisor is near the limit", two, ratiosOf(1, 31622776, 0, 1), ratio(1, 31622776*31622776)},
		{"a square whose divisor is too great", two, ratiosOf(1, 31622777, 0, 1), impl.Ratio{}},
		{"a product at the limit", netOf(2, 2, 1, 0, 1, 4), ratiosOf(billion/2, 1, 0, 1), ratio(topNum, 1)},
		{"a product that is too great", netOf(2, 2, 1, 0, 1, 5), ratiosOf(billion/2, 1, 0, 1), impl.Ratio{}},
		{"a product with a scale at the limit", netOf(2, 2, 4, 0, 1, 1), ratiosOf(billion/2, 1, 0, 1), ratio(topNum/16, 1)},
		{"a product with a scale that is too great", netOf(2, 2, 5, 0, 1, 1), ratiosOf(billion/2, 1, 0, 1), impl.Ratio{}},
		{"a product with a fraction that is reduced first", netOf(2, 2, 40, 0, 1, 160), ratiosOf(billion/2, 1, 0, 1), ratio(topNum, 1)},
		{"a product whose divisor is too great", netOf(2, 2, 2, 0, 1, 1), ratiosOf(1, 31622776, 0, 1), impl.Ratio{}},
		{"a sum at the limit", path, ratiosOf(billion, 1, 0, 1, 0, 1), ratio(topNum, 1)},
		{"a sum that is too great", path, ratiosOf(billion, 1, 1, 1, 0, 1), impl.Ratio{}},
		{"a sum with a product near the limit", path, ratiosOf(billion-1, 1, 1, 1, 0, 1), ratio((billion-1)*(billion-1)+1, 1)},
		{"a sum with a product that is too great", path, ratiosOf(100000, 1, 100000, 1, 0, 1), impl.Ratio{}},
		{"a sum with divisors whose product is too great", path, ratiosOf(1, 100000, 1, 100000, 0, 1), impl.Ratio{}},
		{"a last sum that is too great", netOf(4, 1, 1, 0, 3, 1, 1, 3, 1, 2, 3, 1), ratiosOf(0, 1, billion, 1, 1, 1, 0, 1), impl.Ratio{}},
		{"a first square that is too great", path, ratiosOf(billion+1, 1, 0, 1, 0, 1), impl.Ratio{}},
		{"a last square that is too great", path, ratiosOf(0, 1, billion+1, 1, 0, 1), impl.Ratio{}},
	}
	for _, c := range cases {
		if got, ok := impl.PowerOf(c.n, c.p); ok != (c.want.D != 0) || got != c.want {
			t.Errorf("%s: PowerOf(%v, %v) = %v, %v", c.label, c.n, c.p, got, ok)
		}
	}
}

// reckonedPower follows the calculation with the other way to reckon.
func reckonedPower(n impl.Net, p []impl.Ratio) impl.Ratio {
	sum := ratio(0, 1)
	for _, w := range n.Wires {
		drop := diffOperation.reckon(p[w.A], p[w.B])
		square := timesOperation.reckon(drop, drop)
		sum = sumOperation.reckon(sum, timesOperation.reckon(square, lowestTerms(w.W, n.Scale)))
	}
	return sum
}

// potentialLists gives lists of potentials with small terms, lists with one of
// them at a limit, and lists with all of them there.
func potentialLists(n impl.Net) iter.Seq[[]impl.Ratio] {
	limits := arithmeticRatios()
	return func(yield func([]impl.Ratio) bool) {
		for i := range 20 {
			var near, far []impl.Ratio
			for v := range n.Nodes {
				near = append(near, lowestTerms((i*7+v*v*3)%11-5, (i+v)%4+1))
				far = append(far, limits[(i*37+v*11)%len(limits)])
			}
			mixed := slices.Clone(near)
			mixed[i%n.Nodes] = far[0]
			if !yield(near) || !yield(mixed) || !yield(far) {
				return
			}
		}
	}
}

func TestPowerByOtherReckoning(t *testing.T) {
	valid, notValid := 0, 0
	for n := range allNets() {
		if !isValidNet(n) {
			continue
		}
		for p := range potentialLists(n) {
			want := reckonedPower(n, p)
			checkPower(t, n, p, want, want.D != 0)
			if want.D != 0 {
				valid++
			} else {
				notValid++
			}
		}
	}
	if min(valid, notValid) < 5000 {
		t.Errorf("%d lists have a power, and %d have none", valid, notValid)
	}
}

// smallNets gives the valid ones of allNets with weights and scales up to 3, so
// that the terms of the powers stay small too.
func smallNets() iter.Seq[impl.Net] {
	return func(yield func(impl.Net) bool) {
		for n := range allNets() {
			n.Scale = n.Scale%3 + 1
			for i := range n.Wires {
				n.Wires[i].W = n.Wires[i].W%3 + 1
			}
			if isValidNet(n) && !yield(n) {
				return
			}
		}
	}
}

// Promise 2: the power is the resistance, also with the potentials turned round
// or shifted.
func TestPowerIsResistance(t *testing.T) {
	for n := range smallNets() {
		for a := range n.Nodes {
			for b := range n.Nodes {
				p, ok := impl.PotentialsOf(n, a, b)
				if !ok {
					continue
				}
				r, _ := impl.ResistanceOf(n, a, b)
				checkPower(t, n, p, r, true)
				checkPower(t, n, changed(p, 31, ratio(1, 1)), r, true)
				checkPower(t, n, changed(p, 31, ratio(-1, 2)), r, true)
				back, _ := impl.PotentialsOf(n, b, a)
				checkPower(t, n, back, r, true)
			}
		}
	}
}

// changed adds a step to the potentials of a set of nodes.
func changed(p []impl.Ratio, set int, step impl.Ratio) []impl.Ratio {
	p = slices.Clone(p)
	for v := range p {
		if set>>v&1 == 1 {
			p[v] = sumOperation.reckon(p[v], step)
		}
	}
	return p
}

// Promise 2: whenever potentials of other nodes change, the power grows.
func TestPowerIsLeast(t *testing.T) {
	grown, without := 0, 0
	for n := range smallNets() {
		for a := range n.Nodes {
			for b := range a {
				r, _ := impl.ResistanceOf(n, a, b)
				for q := range otherPotentials(n, a, b) {
					got, ok := impl.PowerOf(n, q)
					switch {
					case ok && impl.RatioCmp(got, r) == 1:
						grown++
					case !ok && reckonedPower(n, q) == got:
						without++
					default:
						t.Errorf("PowerOf(%v, %v) = %v, %v, and the resistance is %v", n, q, got, ok, r)
					}
				}
			}
		}
	}
	if without*10 > grown {
		t.Errorf("%d potentials have a power, and %d have none", grown, without)
	}
}

// otherPotentials gives potentials with the same difference between a and b as
// those of a current, but others at other nodes.
func otherPotentials(n impl.Net, a int, b int) iter.Seq[[]impl.Ratio] {
	return func(yield func([]impl.Ratio) bool) {
		p, _ := impl.PotentialsOf(n, a, b)
		for set := 1; set < 1<<n.Nodes; set++ {
			if set>>a&1 == 1 || set>>b&1 == 1 {
				continue
			}
			for _, step := range ratiosOf(1, 1, -1, 2, 1, 100) {
				other := changed(p, set, step)
				if !yield(other) || !yield(changed(other, set&-set, step)) {
					return
				}
			}
		}
	}
}

// ratiosWithSpare puts fractions into the capacity behind those of a list.
func ratiosWithSpare(list []impl.Ratio) []impl.Ratio {
	return slices.Concat(list, ratiosOf(-71, 72, 1, 2, 0, 0))[:len(list)]
}

func TestResistKeepsItsArguments(t *testing.T) {
	for _, n := range append(goodNets(), badNets()...) {
		spare := withSpare(n)
		wires := spare.Wires[:cap(spare.Wires)]
		wiresBefore := slices.Clone(wires)
		for length := range impl.MaxNodes + 2 {
			p := ratiosWithSpare(slices.Repeat(ratiosOf(1, 2, -1, 3), 4)[:length])
			all := p[:cap(p)]
			before := slices.Clone(all)
			first, ok := impl.PowerOf(spare, p)
			if second, same := impl.PowerOf(n, p); second != first || same != ok {
				t.Errorf("PowerOf(%.400v, %v) is once %v, %v and once %v, %v", n, p, first, ok, second, same)
			}
			if !slices.Equal(all, before) {
				t.Errorf("PowerOf of %.400v changes %v to %v", n, before, all)
			}
		}
		impl.ResistanceOf(spare, 0, 1)
		impl.PotentialsOf(spare, 1, 0)
		impl.CurrentOn(spare, 1, 0, 0, 1)
		if !slices.Equal(wires, wiresBefore) {
			t.Errorf("%.400v is changed to %.400v", wiresBefore, wires)
		}
	}
}

// A result is filled up to its capacity, which must change no other result and
// no argument.
func TestPotentialsOfIsNew(t *testing.T) {
	for _, n := range goodNets() {
		spare := withSpare(n)
		first, ok := impl.PotentialsOf(spare, 1, 0)
		second, same := impl.PotentialsOf(spare, 1, 0)
		before := slices.Clone(second)
		first = first[:cap(first)]
		for i := range first {
			first[i] = ratio(77, 78)
		}
		if ok != same || !slices.Equal(second, before) || !equalNets(spare, n) {
			t.Errorf("PotentialsOf(%v, 1, 0) shares memory", n)
		}
		if third, _ := impl.PotentialsOf(spare, 1, 0); !slices.Equal(third, before) {
			t.Errorf("PotentialsOf(%v, 1, 0) is once %v and once %v", n, before, third)
		}
	}
}
