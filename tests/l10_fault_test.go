package tests

import (
	"fmt"
	"iter"
	"math"
	"runtime"
	"slices"
	"sync"
	"testing"

	"loop.example/g00859/impl"
)

// faultsOf makes a list from the wires and the weights of its faults.
func faultsOf(numbers ...int) []impl.Fault {
	var faults []impl.Fault
	for i := 0; i < len(numbers); i += 2 {
		faults = append(faults, impl.Fault{Wire: numbers[i], Weight: numbers[i+1]})
	}
	return faults
}

// allWeights gives the faults of a wire with all weights from one to another,
// but for the weight that it has.
func allWeights(wire int, from int, to int, but int) []impl.Fault {
	var faults []impl.Fault
	for weight := from; weight <= to; weight++ {
		if weight != but {
			faults = append(faults, impl.Fault{Wire: wire, Weight: weight})
		}
	}
	return faults
}

func faultByHand(n impl.Net, f impl.Fault) (impl.Net, bool) {
	if !slices.Contains([]int{0, 1, 2, 3, 4, 5, 6, 7, 8, 9, 10, 11, 12}, f.Weight) {
		return impl.Net{}, false
	}
	for i, w := range n.Wires {
		if i == f.Wire && w.W != f.Weight {
			return netWithWire(n, w.A, w.B, f.Weight)
		}
	}
	return impl.Net{}, false
}

// A fault with the response after it, also as a text that is soon compared.
type reckonedFault struct {
	fault    impl.Fault
	response [][]impl.Ratio
	text     string
}

func reckonedFaults(n impl.Net) []reckonedFault {
	var all []reckonedFault
	for wire := range n.Wires {
		for weight := range 13 {
			f := impl.Fault{Wire: wire, Weight: weight}
			if faulty, ok := faultByHand(n, f); ok {
				response := reductionOf(faulty).response()
				all = append(all, reckonedFault{fault: f, response: response, text: fmt.Sprint(response)})
			}
		}
	}
	return all
}

func likeByHand(all []reckonedFault, text string) []impl.Fault {
	var faults []impl.Fault
	for _, r := range all {
		if r.text == text {
			faults = append(faults, r.fault)
		}
	}
	return faults
}

func twinByHand(all []reckonedFault, r reckonedFault) (impl.Fault, bool) {
	for _, f := range likeByHand(all, r.text) {
		if f != r.fault {
			return f, true
		}
	}
	return impl.Fault{}, false
}

func locatedByHand(all []reckonedFault, text string, wire int) bool {
	found := false
	for _, r := range all {
		if r.fault.Wire != wire {
			continue
		}
		found = true
		if r.text == text {
			return false
		}
		for _, f := range likeByHand(all, r.text) {
			if f.Wire != wire {
				return false
			}
		}
	}
	return found
}

// blindByHand takes all lists of different nodes and asks which of them are
// paths between two terminals.
func blindByHand(n impl.Net, lists [][]int) []int {
	table := tableOf(n)
	for _, list := range lists {
		isPath := len(list) > 1 && slices.Max(list) < n.Nodes && list[0] < n.Ends && list[len(list)-1] < n.Ends
		for i := 1; isPath && i < len(list); i++ {
			isPath = n.Nodes > 1 && table[list[i-1]][list[i]] != 0
		}
		for i := 1; isPath && i < len(list); i++ {
			table[list[i-1]][list[i]], table[list[i]][list[i-1]] = -1, -1
		}
	}
	var blind []int
	for i, w := range n.Wires {
		if table[w.A][w.B] > 0 {
			blind = append(blind, i)
		}
	}
	return blind
}

// faultNets gives all sets of wires with every number of terminals, half of
// them with small weights, so that several faults have the same response.
func faultNets() iter.Seq[impl.Net] {
	return func(yield func(impl.Net) bool) {
		count := 0
		for n := range netsOfAllEnds() {
			count++
			if count%2 == 0 {
				n = copyOf(n)
				n.Scale = n.Scale%3 + 1
				for i := range n.Wires {
					n.Wires[i].W = n.Wires[i].W%3 + 1
				}
			}
			if !yield(n) {
				return
			}
		}
	}
}

func TestMaxFault(t *testing.T) {
	if impl.MaxFault != 12 {
		t.Errorf("MaxFault is %d", impl.MaxFault)
	}
}

func seriesNet() impl.Net { return netOf(3, 2, 1, 0, 2, 1, 1, 2, 2) }

func triangleNet() impl.Net { return netOf(3, 3, 1, 0, 1, 1, 0, 2, 2, 1, 2, 3) }

// No current flows through its last wire.
func balancedNet() impl.Net {
	return netOf(4, 2, 1, 0, 2, 1, 0, 3, 2, 1, 2, 1, 1, 3, 2, 2, 3, 5)
}

func TestApplyFault(t *testing.T) {
	ring := netOf(4, 2, 6, 0, 1, 4, 0, 3, 12, 1, 2, 13, 2, 3, 200)
	cases := []struct {
		n            impl.Net
		wire, weight int
		want         impl.Net
	}{
		{netOf(2, 2, 1, 0, 1, 1), 0, 2, netOf(2, 2, 1, 0, 1, 2)},
		{netOf(2, 1, 1000, 0, 1, 200), 0, 1, netOf(2, 1, 1000, 0, 1, 1)},
		{netOf(2, 2, 1000, 0, 1, 200), 0, 12, netOf(2, 2, 1000, 0, 1, 12)},
		{netOf(2, 2, 6, 0, 1, 1), 0, 12, netOf(2, 2, 6, 0, 1, 12)},
		{netOf(2, 2, 1, 0, 1, 12), 0, 11, netOf(2, 2, 1, 0, 1, 11)},
		{seriesNet(), 0, 2, netOf(3, 2, 1, 0, 2, 2, 1, 2, 2)},
		{seriesNet(), 1, 1, netOf(3, 2, 1, 0, 2, 1, 1, 2, 1)},
		{triangleNet(), 0, 0, netOf(3, 3, 1, 0, 2, 2, 1, 2, 3)},
		{triangleNet(), 1, 0, netOf(3, 3, 1, 0, 1, 1, 1, 2, 3)},
		{triangleNet(), 2, 0, netOf(3, 3, 1, 0, 1, 1, 0, 2, 2)},
		{triangleNet(), 1, 12, netOf(3, 3, 1, 0, 1, 1, 0, 2, 12, 1, 2, 3)},
		{ring, 0, 0, netOf(4, 2, 6, 0, 3, 12, 1, 2, 13, 2, 3, 200)},
		{ring, 0, 2, netOf(4, 2, 6, 0, 1, 2, 0, 3, 12, 1, 2, 13, 2, 3, 200)},
		{ring, 1, 11, netOf(4, 2, 6, 0, 1, 4, 0, 3, 11, 1, 2, 13, 2, 3, 200)},
		{ring, 2, 12, netOf(4, 2, 6, 0, 1, 4, 0, 3, 12, 1, 2, 12, 2, 3, 200)},
		{ring, 3, 0, netOf(4, 2, 6, 0, 1, 4, 0, 3, 12, 1, 2, 13)},
		{ring, 3, 1, netOf(4, 2, 6, 0, 1, 4, 0, 3, 12, 1, 2, 13, 2, 3, 1)},
		{ring, 3, 12, netOf(4, 2, 6, 0, 1, 4, 0, 3, 12, 1, 2, 13, 2, 3, 12)},
		{withScale(completeNet(3, 2, 1), 2), 1, 4, netOf(3, 2, 2, 0, 1, 1, 0, 2, 4, 1, 2, 3)},
		// the scale is not divided with the weights
		{netOf(3, 2, 2, 0, 1, 4, 1, 2, 3), 1, 6, netOf(3, 2, 2, 0, 1, 4, 1, 2, 6)},
	}
	for _, c := range cases {
		if got, ok := impl.ApplyFault(c.n, impl.Fault{Wire: c.wire, Weight: c.weight}); !ok || !equalNets(got, c.want) {
			t.Errorf("ApplyFault(%v, %d=%d) = %v, %v", c.n, c.wire, c.weight, got, ok)
		}
	}
}

func checkNoFault(t *testing.T, n impl.Net, f impl.Fault) {
	t.Helper()
	if got, ok := impl.ApplyFault(n, f); ok || !equalNets(got, impl.Net{}) {
		t.Errorf("ApplyFault(%.400v, %v) = %v, %v", n, f, got, ok)
	}
	if got, ok := impl.TwinFault(n, f); ok || got != (impl.Fault{}) {
		t.Errorf("TwinFault(%.400v, %v) = %v, %v", n, f, got, ok)
	}
}

func TestApplyFaultNone(t *testing.T) {
	for _, n := range goodNets() {
		count := len(n.Wires)
		for _, wire := range []int{math.MinInt, math.MinInt + count, -count - 1, -count, -2, -1, count, count + 1, 2 * count, 10, 11, 1000, 1 << 32, math.MaxInt} {
			if wire >= 0 && wire < count {
				continue
			}
			for weight := -1; weight <= 13; weight++ {
				checkNoFault(t, n, impl.Fault{Wire: wire, Weight: weight})
			}
		}
		for wire, w := range n.Wires {
			for _, weight := range []int{math.MinInt, math.MinInt + 1, -200, -w.W, -12, -2, -1, 13, 14, 100, 199, 200, 201, 1 << 32, 1<<32 + 5, math.MaxInt, w.W} {
				checkNoFault(t, n, impl.Fault{Wire: wire, Weight: weight})
			}
		}
	}
	// a break parts the network
	path := netOf(4, 4, 1, 0, 1, 13, 1, 2, 12, 2, 3, 1)
	for wire := range path.Wires {
		checkNoFault(t, path, impl.Fault{Wire: wire, Weight: 0})
	}
	tail := netOf(4, 2, 1, 0, 1, 1, 0, 2, 1, 1, 2, 1, 2, 3, 1)
	checkNoFault(t, tail, impl.Fault{Wire: 3, Weight: 0})
	checkNoFault(t, netOf(2, 1, 1, 0, 1, 200), impl.Fault{Wire: 0, Weight: 0})
	checkNoFault(t, netOf(5, 1, 1, 0, 1, 1, 0, 2, 1, 1, 2, 1, 1, 3, 1, 3, 4, 1), impl.Fault{Wire: 3, Weight: 0})
}

func TestApplyFaultToAllNets(t *testing.T) {
	for n := range faultNets() {
		for wire := -2; wire <= len(n.Wires)+1; wire++ {
			for weight := -2; weight <= 14; weight++ {
				f := impl.Fault{Wire: wire, Weight: weight}
				want, wanted := faultByHand(n, f)
				if got, ok := impl.ApplyFault(n, f); ok != wanted || !equalNets(got, want) {
					t.Fatalf("ApplyFault(%v, %v) = %v, %v, not %v, %v", n, f, got, ok, want, wanted)
				}
			}
		}
	}
}

func TestAllFaults(t *testing.T) {
	cases := []struct {
		n    impl.Net
		want []impl.Fault
	}{
		{netOf(1, 1, 1), nil},
		{netOf(1, 1, 1000), nil},
		{netOf(2, 2, 1, 0, 1, 1), faultsOf(0, 2, 0, 3, 0, 4, 0, 5, 0, 6, 0, 7, 0, 8, 0, 9, 0, 10, 0, 11, 0, 12)},
		{netOf(2, 1, 7, 0, 1, 12), faultsOf(0, 1, 0, 2, 0, 3, 0, 4, 0, 5, 0, 6, 0, 7, 0, 8, 0, 9, 0, 10, 0, 11)},
		{netOf(2, 2, 7, 0, 1, 13), allWeights(0, 1, 12, 13)},
		{netOf(2, 2, 1000, 0, 1, 200), allWeights(0, 1, 12, 200)},
		{seriesNet(), slices.Concat(allWeights(0, 2, 12, 1), allWeights(1, 1, 12, 2))},
		{triangleNet(), slices.Concat(allWeights(0, 0, 12, 1), allWeights(1, 0, 12, 2), allWeights(2, 0, 12, 3))},
		{withEnds(triangleNet(), 1), slices.Concat(allWeights(0, 0, 12, 1), allWeights(1, 0, 12, 2), allWeights(2, 0, 12, 3))},
		{netOf(4, 2, 1, 0, 1, 100, 0, 2, 5, 1, 2, 12, 2, 3, 13), slices.Concat(allWeights(0, 0, 12, 100), allWeights(1, 0, 12, 5), allWeights(2, 0, 12, 12), allWeights(3, 1, 12, 13))},
		{netOf(4, 4, 1, 0, 3, 1, 1, 2, 200, 2, 3, 12), slices.Concat(allWeights(0, 1, 12, 1), allWeights(1, 1, 12, 200), allWeights(2, 1, 12, 12))},
	}
	for _, c := range cases {
		if got := impl.AllFaults(c.n); !slices.Equal(got, c.want) {
			t.Errorf("AllFaults(%v) = %v", c.n, got)
		}
	}
	if got := impl.AllFaults(completeNet(5, 5, 1)); len(got) != 120 || !slices.Equal(got[:2], faultsOf(0, 0, 0, 2)) || !slices.Equal(got[118:], faultsOf(9, 11, 9, 12)) {
		t.Errorf("AllFaults(%v) = %v", completeNet(5, 5, 1), got)
	}
	if got := impl.AllFaults(sameWeights(5, 200)); len(got) != 130 {
		t.Errorf("AllFaults(%v) = %v", sameWeights(5, 200), got)
	}
}

func TestHiddenFaults(t *testing.T) {
	cases := []struct {
		n    impl.Net
		want []impl.Fault
	}{
		{netOf(1, 1, 1), nil},
		{netOf(2, 2, 1, 0, 1, 1), nil},
		{seriesNet(), nil},
		{triangleNet(), nil},
		{completeNet(5, 5, 3), nil},
		// with one terminal, nothing is seen
		{netOf(2, 1, 7, 0, 1, 12), allWeights(0, 1, 12, 12)},
		{withEnds(triangleNet(), 1), slices.Concat(allWeights(0, 0, 12, 1), allWeights(1, 0, 12, 2), allWeights(2, 0, 12, 3))},
		// a tail, and a loop at one terminal
		{netOf(3, 2, 1, 0, 1, 1, 1, 2, 4), allWeights(1, 1, 12, 4)},
		{netOf(4, 2, 1, 0, 2, 1, 1, 2, 1, 2, 3, 200), allWeights(2, 1, 12, 200)},
		{netOf(4, 2, 1, 0, 1, 1, 1, 2, 4, 1, 3, 12, 2, 3, 13), slices.Concat(allWeights(1, 0, 12, 4), allWeights(2, 0, 12, 12), allWeights(3, 0, 12, 13))},
		// no current flows through the last wire
		{balancedNet(), allWeights(4, 0, 12, 5)},
		{withEnds(balancedNet(), 3), nil},
	}
	for _, c := range cases {
		if got := impl.HiddenFaults(c.n); !slices.Equal(got, c.want) {
			t.Errorf("HiddenFaults(%v) = %v", c.n, got)
		}
	}
}

func TestFaultsLike(t *testing.T) {
	equalSeries := netOf(4, 2, 1, 0, 2, 1, 1, 3, 1, 2, 3, 1)
	cases := []struct {
		n    impl.Net
		m    [][]impl.Ratio
		want []impl.Fault
	}{
		{seriesNet(), wholeRows(2, 1, 1, -1, -1, 1), faultsOf(0, 2)},
		{seriesNet(), wholeRows(2, 2, 1, -1, -1, 1), faultsOf(1, 1)},
		{seriesNet(), wholeRows(2, 7, 12, -12, -12, 12), faultsOf(0, 12)},
		{seriesNet(), wholeRows(2, 13, 12, -12, -12, 12), faultsOf(1, 12)},
		{seriesNet(), wholeRows(2, 1, 0, 0, 0, 0), nil},
		{netOf(3, 2, 1, 0, 2, 2, 1, 2, 3), wholeRows(2, 2, 3, -3, -3, 3), faultsOf(0, 3, 1, 6)},
		{netOf(3, 2, 1, 0, 2, 2, 1, 2, 3), wholeRows(2, 7, 12, -12, -12, 12), faultsOf(0, 4, 1, 12)},
		{equalSeries, wholeRows(2, 11, 5, -5, -5, 5), faultsOf(0, 5, 1, 5, 2, 5)},
		{equalSeries, wholeRows(2, 25, 12, -12, -12, 12), faultsOf(0, 12, 1, 12, 2, 12)},
		{netOf(3, 2, 1, 0, 1, 1, 0, 2, 1, 1, 2, 1), wholeRows(2, 1, 1, -1, -1, 1), faultsOf(1, 0, 2, 0)},
		{netOf(3, 2, 1, 0, 1, 1, 0, 2, 1, 1, 2, 1), wholeRows(2, 2, 1, -1, -1, 1), faultsOf(0, 0)},
		{triangleNet(), wholeRows(3, 1, 2, 0, -2, 0, 3, -3, -2, -3, 5), faultsOf(0, 0)},
		{triangleNet(), wholeRows(3, 1, 13, -1, -12, -1, 4, -3, -12, -3, 15), faultsOf(1, 12)},
		{netOf(2, 2, 1000, 0, 1, 200), wholeRows(2, 250, 3, -3, -3, 3), faultsOf(0, 12)},
		// the response of the network itself
		{seriesNet(), wholeRows(2, 3, 2, -2, -2, 2), nil},
		{triangleNet(), wholeRows(3, 1, 3, -1, -2, -1, 4, -3, -2, -3, 5), nil},
		{netOf(3, 2, 1, 0, 1, 1, 1, 2, 4), wholeRows(2, 1, 1, -1, -1, 1), allWeights(1, 1, 12, 4)},
		{balancedNet(), wholeRows(2, 2, 3, -3, -3, 3), allWeights(4, 0, 12, 5)},
		{netOf(2, 1, 7, 0, 1, 12), wholeRows(1, 1, 0), allWeights(0, 1, 12, 12)},
		{netOf(1, 1, 1), wholeRows(1, 1, 0), nil},
		// responses that are too great or too small for any fault
		{seriesNet(), wholeRows(2, 1, 2, -2, -2, 2), nil},
		{netOf(2, 2, 1, 0, 1, 1), wholeRows(2, 1, 13, -13, -13, 13), nil},
		{netOf(2, 2, 1, 0, 1, 1), wholeRows(2, 1000, 1, -1, -1, 1), nil},
	}
	for _, c := range cases {
		if got := impl.FaultsLike(c.n, c.m); !slices.Equal(got, c.want) {
			t.Errorf("FaultsLike(%v, %v) = %v", c.n, c.m, got)
		}
	}
}

// Matrices that no fault leads to, though some have the value of a response.
func TestFaultsLikeNoResponse(t *testing.T) {
	matrices := [][][]impl.Ratio{
		nil, {}, {nil}, {{}}, {nil, nil}, {ratiosOf(1, 1)}, {ratiosOf(1, 1, -1, 1)}, {ratiosOf(1, 1, -1, 1), nil}, {ratiosOf(1, 1, -1, 1), ratiosOf(-1, 1)},
		{ratiosOf(1, 1, -1, 1, 0, 1), ratiosOf(-1, 1, 1, 1, 0, 1)}, {ratiosOf(1, 1, -1, 1), ratiosOf(-1, 1, 1, 1), nil}, {ratiosOf(1, 1), ratiosOf(-1, 1), ratiosOf(-1, 1), ratiosOf(1, 1)},
		ratioRows(1, 1, 1), ratioRows(1, -1, 1), ratioRows(1, 0, 0), ratioRows(1, 0, 2), ratioRows(1, 0, -1),
		ratioRows(2, 2, 2, -2, 2, -2, 2, 2, 2), ratioRows(2, 1, 1, -1, 1, -1, 1, 2, 2), ratioRows(2, -1, -1, 1, -1, 1, -1, -1, -1), make([][]impl.Ratio, 2), {make([]impl.Ratio, 2), make([]impl.Ratio, 2)},
		wholeRows(2, 1, 1, -1, -1, 2), wholeRows(2, 1, 1, 1, 1, 1), wholeRows(2, 1, -1, 1, 1, -1), wholeRows(2, 1, 1, -1, 1, -1), wholeRows(2, 1, 1, 1, -1, -1), wholeRows(2, 1, 1, 0, 0, 1),
		wholeRows(3, 1, 2, 0, -2, 0, 3, -3, -2, -3, 6), wholeRows(3, 1, 2, 0, 2, 0, 3, 3, 2, 3, 5), ratioRows(6, slices.Repeat([]int{0, 1}, 36)...), make([][]impl.Ratio, 1000),
	}
	for _, n := range []impl.Net{seriesNet(), triangleNet(), withEnds(triangleNet(), 1), balancedNet(), netOf(1, 1, 1), netOf(2, 2, 1, 0, 1, 1), netOf(3, 2, 1, 0, 1, 1, 1, 2, 4), completeNet(5, 5, 1)} {
		for _, m := range matrices {
			if got := impl.FaultsLike(n, m); len(got) != 0 {
				t.Errorf("FaultsLike(%v, %.200v) = %v", n, m, got)
			}
		}
	}
}

func TestBlindWires(t *testing.T) {
	bridged := netOf(5, 2, 1, 0, 2, 1, 1, 2, 1, 2, 3, 1, 2, 4, 1, 3, 4, 1)
	cases := []struct {
		n    impl.Net
		want []int
	}{
		{netOf(1, 1, 1), nil},
		{netOf(2, 1, 1, 0, 1, 1), []int{0}},
		{netOf(2, 2, 1, 0, 1, 1), nil},
		{seriesNet(), nil},
		{triangleNet(), nil},
		{withEnds(triangleNet(), 2), nil},
		{withEnds(triangleNet(), 1), []int{0, 1, 2}},
		{completeNet(5, 1, 1), []int{0, 1, 2, 3, 4, 5, 6, 7, 8, 9}},
		{completeNet(5, 2, 1), nil},
		{completeNet(5, 5, 1), nil},
		// a tail at a terminal, at an inner node and of two wires
		{netOf(3, 2, 1, 0, 1, 1, 0, 2, 1), []int{1}},
		{netOf(4, 2, 1, 0, 2, 1, 1, 2, 1, 2, 3, 1), []int{2}},
		{netOf(4, 2, 1, 0, 1, 1, 0, 2, 1, 2, 3, 1), []int{1, 2}},
		{netOf(4, 3, 1, 0, 1, 1, 0, 2, 1, 2, 3, 1), []int{2}},
		{netOf(4, 4, 1, 0, 1, 1, 0, 2, 1, 2, 3, 1), nil},
		{netOf(5, 2, 1, 0, 4, 1, 1, 3, 1, 2, 3, 1, 2, 4, 1), nil},
		{netOf(5, 2, 1, 0, 1, 1, 0, 4, 1, 1, 3, 1, 2, 4, 1), []int{1, 2, 3}},
		// a loop that hangs at one node has no path through it
		{netOf(4, 2, 1, 0, 1, 1, 1, 2, 4, 1, 3, 12, 2, 3, 13), []int{1, 2, 3}},
		{netOf(4, 3, 1, 0, 1, 1, 1, 2, 4, 1, 3, 12, 2, 3, 13), nil},
		{bridged, []int{2, 3, 4}},
		{withEnds(bridged, 3), []int{2, 3, 4}},
		{withEnds(bridged, 4), nil},
		// a terminal stands between others and the loop
		{netOf(5, 2, 1, 0, 1, 1, 1, 2, 1, 2, 3, 1, 2, 4, 1, 3, 4, 1), []int{1, 2, 3, 4}},
		{netOf(5, 3, 1, 0, 1, 1, 1, 2, 1, 2, 3, 1, 2, 4, 1, 3, 4, 1), []int{2, 3, 4}},
		// no current flows, but there is a path
		{balancedNet(), nil},
		{netOf(5, 2, 1, 0, 2, 1, 0, 3, 1, 1, 2, 1, 1, 3, 1, 2, 4, 1, 3, 4, 1), nil},
		{netOf(5, 2, 1, 0, 2, 1, 0, 3, 1, 1, 2, 1, 1, 3, 1, 2, 3, 1, 2, 4, 1), []int{5}},
	}
	for _, c := range cases {
		if got := impl.BlindWires(c.n); !slices.Equal(got, c.want) {
			t.Errorf("BlindWires(%v) = %v", c.n, got)
		}
	}
}

func TestBlindWiresOfAllNets(t *testing.T) {
	lists, blind := differentLists(5), 0
	for n := range netsOfAllEnds() {
		want := blindByHand(n, lists)
		if got := impl.BlindWires(n); !slices.Equal(got, want) {
			t.Fatalf("BlindWires(%v) = %v, not %v", n, got, want)
		}
		if len(want) > 0 && n.Ends > 1 {
			blind++
		}
	}
	if blind < 500 {
		t.Errorf("only %d networks with several terminals have blind wires", blind)
	}
}

func TestTwinFault(t *testing.T) {
	equalSeries := netOf(4, 2, 1, 0, 2, 1, 1, 3, 1, 2, 3, 1)
	delta := netOf(3, 2, 1, 0, 1, 1, 0, 2, 1, 1, 2, 1)
	tail := netOf(3, 2, 1, 0, 1, 1, 1, 2, 4)
	cases := []struct {
		n       impl.Net
		f, want []impl.Fault
	}{
		// none
		{netOf(2, 2, 1, 0, 1, 1), faultsOf(0, 2), nil},
		{seriesNet(), faultsOf(0, 2), nil},
		{triangleNet(), faultsOf(0, 0), nil},
		{triangleNet(), faultsOf(2, 12), nil},
		{delta, faultsOf(0, 0), nil},
		{tail, faultsOf(0, 12), nil},
		// one, before and after
		{netOf(3, 2, 1, 0, 2, 1, 1, 2, 1), faultsOf(0, 2), faultsOf(1, 2)},
		{netOf(3, 2, 1, 0, 2, 1, 1, 2, 1), faultsOf(1, 12), faultsOf(0, 12)},
		{netOf(3, 2, 1, 0, 2, 2, 1, 2, 3), faultsOf(0, 3), faultsOf(1, 6)},
		{netOf(3, 2, 1, 0, 2, 2, 1, 2, 3), faultsOf(1, 12), faultsOf(0, 4)},
		{netOf(3, 2, 1, 0, 2, 2, 1, 2, 3), faultsOf(0, 6), nil},
		{delta, faultsOf(1, 0), faultsOf(2, 0)},
		{delta, faultsOf(2, 0), faultsOf(1, 0)},
		{delta, faultsOf(2, 7), faultsOf(1, 7)},
		// several
		{equalSeries, faultsOf(0, 5), faultsOf(1, 5)},
		{equalSeries, faultsOf(1, 5), faultsOf(0, 5)},
		{equalSeries, faultsOf(2, 5), faultsOf(0, 5)},
		// of the same wire
		{tail, faultsOf(1, 1), faultsOf(1, 2)},
		{tail, faultsOf(1, 2), faultsOf(1, 1)},
		{tail, faultsOf(1, 12), faultsOf(1, 1)},
		{balancedNet(), faultsOf(4, 0), faultsOf(4, 1)},
		{balancedNet(), faultsOf(4, 6), faultsOf(4, 0)},
		{netOf(2, 1, 1, 0, 1, 1), faultsOf(0, 2), faultsOf(0, 3)},
		{netOf(2, 1, 1, 0, 1, 1), faultsOf(0, 3), faultsOf(0, 2)},
		// of the same wire and of others
		{withEnds(triangleNet(), 1), faultsOf(0, 0), faultsOf(0, 2)},
		{withEnds(triangleNet(), 1), faultsOf(1, 0), faultsOf(0, 0)},
		{netOf(4, 2, 1, 0, 1, 1, 0, 2, 1, 2, 3, 1), faultsOf(2, 12), faultsOf(1, 2)},
	}
	for _, c := range cases {
		want := slices.Concat(c.want, faultsOf(0, 0))[0]
		if got, ok := impl.TwinFault(c.n, c.f[0]); ok != (len(c.want) == 1) || got != want {
			t.Errorf("TwinFault(%v, %v) = %v, %v", c.n, c.f[0], got, ok)
		}
	}
}

func TestCanLocate(t *testing.T) {
	cases := []struct {
		n    impl.Net
		want []bool
	}{
		{netOf(1, 1, 1), nil},
		{netOf(2, 2, 1, 0, 1, 1), []bool{true}},
		{netOf(2, 2, 1000, 0, 1, 200), []bool{true}},
		{netOf(2, 1, 1, 0, 1, 1), []bool{false}},
		{triangleNet(), []bool{true, true, true}},
		{withEnds(triangleNet(), 1), []bool{false, false, false}},
		{completeNet(5, 5, 1), slices.Repeat([]bool{true}, 10)},
		// each fault of one wire has a twin of the other one, or only some have
		{netOf(3, 2, 1, 0, 2, 1, 1, 2, 1), []bool{false, false}},
		{netOf(3, 2, 1, 0, 2, 2, 1, 2, 3), []bool{false, false}},
		// 100/101 and the like against 1/2 to 12/13
		{netOf(3, 2, 1, 0, 2, 1, 1, 2, 100), []bool{true, true}},
		{netOf(4, 2, 1, 0, 2, 1, 1, 3, 1, 2, 3, 1), []bool{false, false, false}},
		{netOf(4, 2, 1, 0, 1, 1, 0, 2, 1, 1, 2, 1, 2, 3, 7), []bool{true, false, false, false}},
		{netOf(3, 2, 1, 0, 1, 1, 1, 2, 4), []bool{true, false}},
		// 3a/(a+3) and b/(b+1) are the same only for weights that are no faults
		{netOf(4, 2, 1, 0, 2, 1, 1, 2, 3, 2, 3, 5), []bool{true, true, false}},
	}
	for _, c := range cases {
		for wire, want := range c.want {
			if impl.CanLocate(c.n, wire) != want {
				t.Errorf("CanLocate(%v, %d) is %v", c.n, wire, !want)
			}
		}
		checkNotLocated(t, c.n)
	}
	if impl.CanLocate(balancedNet(), 4) {
		t.Errorf("CanLocate(%v, 4) is true", balancedNet())
	}
}

// checkNotLocated asks for wires that do not exist.
func checkNotLocated(t *testing.T, n impl.Net) {
	t.Helper()
	count := len(n.Wires)
	for _, wire := range []int{math.MinInt, math.MinInt + count, -count, -2, -1, count, count + 1, 2*count + 1, 1000, 1 << 32, math.MaxInt} {
		if impl.CanLocate(n, wire) {
			t.Errorf("CanLocate(%.400v, %d) is true", n, wire)
		}
	}
}

// All functions against the responses after all faults, which are reckoned
// without a determinant: for half of the networks of five nodes.
func TestFaultsOfAllNets(t *testing.T) {
	count := 0
	for n := range faultNets() {
		count++
		if n.Nodes == 5 && count%4 > 1 {
			continue
		}
		all := reckonedFaults(n)
		text := fmt.Sprint(reductionOf(n).response())
		var want []impl.Fault
		for _, r := range all {
			want = append(want, r.fault)
		}
		if got := impl.AllFaults(n); !slices.Equal(got, want) {
			t.Fatalf("AllFaults(%v) = %v, not %v", n, got, want)
		}
		want = likeByHand(all, text)
		if got := impl.HiddenFaults(n); !slices.Equal(got, want) {
			t.Fatalf("HiddenFaults(%v) = %v, not %v", n, got, want)
		}
		if n.Nodes < 4 {
			checkSearches(t, n, all, text, 1)
		} else if count%40 < 2 {
			checkSearches(t, n, all, text, 7)
		}
	}
}

// checkSearches goes through all wires and, in steps, through all faults.
func checkSearches(t *testing.T, n impl.Net, all []reckonedFault, text string, step int) {
	t.Helper()
	for i := 0; i < len(all); i += step {
		want := likeByHand(all, all[i].text)
		if got := impl.FaultsLike(n, all[i].response); !slices.Equal(got, want) {
			t.Fatalf("FaultsLike(%v, %v) = %v, not %v", n, all[i].response, got, want)
		}
		twin, wanted := twinByHand(all, all[i])
		if got, ok := impl.TwinFault(n, all[i].fault); ok != wanted || got != twin {
			t.Fatalf("TwinFault(%v, %v) = %v, %v, not %v, %v", n, all[i].fault, got, ok, twin, wanted)
		}
	}
	for wire := range n.Wires {
		want := locatedByHand(all, text, wire)
		if got := impl.CanLocate(n, wire); got != want {
			t.Fatalf("CanLocate(%v, %d) is %v", n, wire, got)
		}
	}
}

// promiseNets gives some networks of each kind: with twins, with hidden faults,
// with blind wires and with wires that can be located.
func promiseNets() []impl.Net {
	nets := slices.Concat(goodNets(), fewWeights(), []impl.Net{balancedNet(), withEnds(balancedNet(), 3)})
	count := 0
	for n := range faultNets() {
		count++
		if n.Nodes == 4 && count%3 == 0 || n.Nodes == 5 && count%150 == 0 {
			nets = append(nets, n)
		}
	}
	return nets
}

// Promise 6: a fault is among those with the response that it leads to, and each
// other one among them is a twin of it.
func TestFaultsAreAmongThoseLikeThem(t *testing.T) {
	alone, several := 0, 0
	for i, n := range promiseNets() {
		faults := impl.AllFaults(n)
		for j := i % 5; j < len(faults); j += 5 {
			f := faults[j]
			faulty, ok := impl.ApplyFault(n, f)
			m, _ := impl.ResponseOf(faulty)
			like := impl.FaultsLike(n, m)
			if !ok || !slices.Contains(like, f) {
				t.Fatalf("FaultsLike(%v, %v) = %v without %v", n, m, like, f)
			}
			twin, hasTwin := impl.TwinFault(n, f)
			if hasTwin != (len(like) > 1) || hasTwin && (twin == f || !slices.Contains(like, twin)) {
				t.Fatalf("TwinFault(%v, %v) = %v, %v, of %v", n, f, twin, hasTwin, like)
			}
			if !hasTwin {
				alone++
				continue
			}
			several++
			if other, _ := impl.ApplyFault(n, twin); !impl.AreAlike(faulty, other) {
				t.Fatalf("%v and its twin %v in %v lead to %v and %v", f, twin, n, faulty, other)
			}
		}
	}
	if min(alone, several) < 500 {
		t.Errorf("%d faults have no twin, and %d have one", alone, several)
	}
}

// Promise 6: hidden faults leave the behaviour as it is, and no other fault
// does.
func TestHiddenFaultsCannotBeSeen(t *testing.T) {
	hidden, others := 0, 0
	for _, n := range promiseNets() {
		list := impl.HiddenFaults(n)
		for _, f := range impl.AllFaults(n) {
			faulty, _ := impl.ApplyFault(n, f)
			if impl.AreAlike(n, faulty) != slices.Contains(list, f) {
				t.Fatalf("HiddenFaults(%v) = %v, and %v leads to %v", n, list, f, faulty)
			}
			if !slices.Contains(list, f) {
				others++
				continue
			}
			hidden++
			for _, volts := range voltLists(n.Ends) {
				first, _ := impl.CurrentsFor(n, volts)
				second, ok := impl.CurrentsFor(faulty, volts)
				if !ok || !slices.Equal(first, second) {
					t.Fatalf("%v are the currents for %v in %v, and %v with %v", first, volts, n, second, f)
				}
			}
		}
	}
	if min(hidden, others) < 1000 {
		t.Errorf("%d faults are hidden, and %d are not", hidden, others)
	}
}

// Promise 6: all faults of blind wires are hidden. A wire that is not blind can
// be seen, unless the other weights balance it: with some other weights it is
// seen.
func TestBlindWiresCannotBeSeen(t *testing.T) {
	count := 0
	for n := range netsOfAllEnds() {
		count++
		if n.Nodes == 5 && count%5 != 0 {
			continue
		}
		blind := impl.BlindWires(n)
		seen := make([]bool, len(n.Wires))
		for _, shift := range []int{0, 3} {
			varied := copyOf(n)
			for i := range varied.Wires {
				varied.Wires[i].W = []int{2, 3, 5, 7, 11, 13, 17, 19, 23, 29}[(i*i+shift)%10]
			}
			hidden := impl.HiddenFaults(varied)
			for _, f := range impl.AllFaults(varied) {
				isHidden := slices.Contains(hidden, f)
				if slices.Contains(blind, f.Wire) && !isHidden {
					t.Fatalf("%v is not hidden in %v, with the blind wires %v", f, varied, blind)
				}
				seen[f.Wire] = seen[f.Wire] || !isHidden
			}
		}
		for wire := range seen {
			if seen[wire] == slices.Contains(blind, wire) {
				t.Fatalf("BlindWires(%v) = %v, but %d is seen or not: %v", n, blind, wire, seen[wire])
			}
		}
	}
}

// Promise 6: a wire that can be located has no fault with the response of the
// network or of a fault of another wire. A wire that cannot has one.
func TestLocatedWires(t *testing.T) {
	located, others := 0, 0
	for _, n := range promiseNets() {
		if n.Nodes == 5 && len(n.Wires) > 7 {
			continue
		}
		faults, hidden := impl.AllFaults(n), impl.HiddenFaults(n)
		for wire := range n.Wires {
			own := slices.DeleteFunc(slices.Clone(faults), func(f impl.Fault) bool { return f.Wire != wire })
			apart := len(own) > 0
			for _, f := range own {
				faulty, _ := impl.ApplyFault(n, f)
				m, _ := impl.ResponseOf(faulty)
				onlyOwn := func(f impl.Fault) bool { return f.Wire == wire }
				if slices.Contains(hidden, f) || len(slices.DeleteFunc(impl.FaultsLike(n, m), onlyOwn)) > 0 {
					apart = false
					break
				}
			}
			if impl.CanLocate(n, wire) != apart || apart && slices.Contains(impl.BlindWires(n), wire) {
				t.Fatalf("CanLocate(%v, %d) is %v", n, wire, !apart)
			}
			if apart {
				located++
			} else {
				others++
			}
		}
	}
	if min(located, others) < 200 {
		t.Errorf("%d wires can be located, and %d cannot", located, others)
	}
}

// Promise 6: if all nodes are terminals, each wire can be located, and no fault
// has a twin or is hidden.
func TestFaultsOfTerminalsAlone(t *testing.T) {
	count := 0
	for n := range faultNets() {
		if n.Ends != n.Nodes {
			continue
		}
		count++
		if n.Ends == 1 || n.Nodes == 5 && count%20 != 0 {
			continue
		}
		if len(impl.HiddenFaults(n)) != 0 || len(impl.BlindWires(n)) != 0 {
			t.Errorf("HiddenFaults(%v) = %v and BlindWires are %v", n, impl.HiddenFaults(n), impl.BlindWires(n))
		}
		for wire := range n.Wires {
			if !impl.CanLocate(n, wire) {
				t.Errorf("CanLocate(%v, %d) is false", n, wire)
			}
		}
		for _, f := range impl.AllFaults(n) {
			if twin, ok := impl.TwinFault(n, f); ok {
				t.Errorf("TwinFault(%v, %v) = %v", n, f, twin)
			}
		}
	}
}

func checkNoFaults(t *testing.T, n impl.Net) {
	t.Helper()
	for wire := -1; wire <= 10; wire++ {
		for _, weight := range []int{-1, 0, 1, 2, 12, 13} {
			checkNoFault(t, n, impl.Fault{Wire: wire, Weight: weight})
		}
		if impl.CanLocate(n, wire) {
			t.Errorf("CanLocate(%.400v, %d) is true", n, wire)
		}
	}
	if got := impl.AllFaults(n); len(got) != 0 {
		t.Errorf("AllFaults(%.400v) = %v", n, got)
	}
	for _, m := range [][][]impl.Ratio{nil, {}, {nil}, wholeRows(1, 1, 0), wholeRows(2, 1, 1, -1, -1, 1), wholeRows(2, 1, 2, -2, -2, 2), wholeRows(3, 1, 2, -1, -1, -1, 2, -1, -1, -1, 2)} {
		if got := impl.FaultsLike(n, m); len(got) != 0 {
			t.Errorf("FaultsLike(%.400v, %v) = %v", n, m, got)
		}
	}
	if got := impl.HiddenFaults(n); len(got) != 0 {
		t.Errorf("HiddenFaults(%.400v) = %v", n, got)
	}
	if got := impl.BlindWires(n); len(got) != 0 {
		t.Errorf("BlindWires(%.400v) = %v", n, got)
	}
	checkNotLocated(t, n)
}

// One thing is wrong with each of these, and most would be valid without a wire
// or with another weight of it.
func nearlyGoodNets() []impl.Net {
	return []impl.Net{
		netOf(2, 2, 1, 0, 1, 0), netOf(2, 2, 1, 0, 1, 201), netOf(2, 1, 1, 0, 1, -3), netOf(3, 1, 1, 0, 1, 1, 0, 2, 201, 1, 2, 1), netOf(3, 1, 1, 0, 1, 1, 0, 2, 1, 1, 2, 0), netOf(3, 2, 1, 0, 1, 1, 0, 2, 1, 1, 2, 1000),
		netOf(2, 1, 1, 0, 1, 1, 0, 1, 1), netOf(3, 3, 1, 0, 1, 1, 0, 2, 1, 2, 2, 1), netOf(3, 3, 1, 0, 1, 1, 0, 2, 1, 2, 3, 1), netOf(3, 1, 1, 0, 2, 1, 0, 1, 1), netOf(3, 0, 1, 0, 1, 1, 0, 2, 1, 1, 2, 1),
	}
}

// A fault must not make a network valid either.
func TestFaultsOfNetsNotValid(t *testing.T) {
	for _, n := range append(badNets(), nearlyGoodNets()...) {
		checkNoFaults(t, n)
	}
}

// Those of allNets in which a node cannot be reached.
func TestFaultsOfNodesApart(t *testing.T) {
	for n := range allNets() {
		if !isValidNet(n) {
			checkNoFaults(t, n)
		}
	}
}

// faultLists gives all results of the functions that return faults, for some
// matrices.
func faultLists(n impl.Net) [][]impl.Fault {
	response, _ := impl.ResponseOf(n)
	lists := [][]impl.Fault{impl.AllFaults(n), impl.HiddenFaults(n), impl.FaultsLike(n, response)}
	for _, m := range [][][]impl.Ratio{wholeRows(1, 1, 0), wholeRows(2, 1, 1, -1, -1, 1), wholeRows(2, 1, 2, -2, -2, 2), wholeRows(2, 2, 3, -3, -3, 3)} {
		lists = append(lists, impl.FaultsLike(n, m))
	}
	return lists
}

func TestFaultsKeepTheirArguments(t *testing.T) {
	nets := slices.Concat(goodNets(), badNets(), []impl.Net{seriesNet(), triangleNet(), balancedNet(), withEnds(triangleNet(), 1), netOf(3, 2, 1, 0, 2, 2, 1, 2, 3), netOf(3, 2, 1, 0, 1, 1, 1, 2, 4)})
	for _, n := range nets {
		spare := withSpare(n)
		all := spare.Wires[:cap(spare.Wires)]
		before := slices.Clone(all)
		lists, blind := faultLists(spare), impl.BlindWires(spare)
		for wire := -1; wire <= len(n.Wires); wire++ {
			located := impl.CanLocate(spare, wire)
			for _, weight := range []int{-1, 0, 3, 12, 13} {
				f := impl.Fault{Wire: wire, Weight: weight}
				checkKept(t, n, netCall{"ApplyFault", func(n impl.Net) (impl.Net, bool) { return impl.ApplyFault(n, f) }})
				twin, ok := impl.TwinFault(spare, f)
				if again, same := impl.TwinFault(n, f); again != twin || same != ok {
					t.Errorf("TwinFault(%.400v, %v) is once %v and once %v", n, f, twin, again)
				}
			}
			if impl.CanLocate(n, wire) != located {
				t.Errorf("CanLocate(%.400v, %d) is not always the same", n, wire)
			}
		}
		if !slices.Equal(all, before) {
			t.Errorf("%.400v is changed to %.400v", before, all)
		}
		if again := faultLists(n); !slices.EqualFunc(lists, again, slices.Equal[[]impl.Fault]) || !slices.Equal(blind, impl.BlindWires(n)) {
			t.Errorf("the faults of %.400v are once %v and once %v", n, lists, again)
		}
	}
}

func TestFaultsLikeKeepsItsMatrix(t *testing.T) {
	matrices := [][][]impl.Ratio{nil, {nil}, {ratiosOf(0, 1), nil}, ratioRows(1, 2, 4), wholeRows(2, 1, 1, -1, -1, 1), wholeRows(2, 2, 3, -3, -3, 3), wholeRows(3, 1, 2, 0, -2, 0, 3, -3, -2, -3, 5)}
	for _, c := range responseCases() {
		matrices = append(matrices, c.want)
	}
	for _, plain := range matrices {
		for _, n := range []impl.Net{{}, netOf(2, 1, 1, 0, 1, 1), seriesNet(), netOf(3, 2, 1, 0, 2, 2, 1, 2, 3), triangleNet(), balancedNet()} {
			m := ratioRowsWithSpare(plain)
			before := wholeRatioText(m)
			got := impl.FaultsLike(n, m)
			if wholeRatioText(m) != before {
				t.Errorf("%s is changed to %s", before, wholeRatioText(m))
			}
			if again := impl.FaultsLike(n, copyOfRatioRows(plain)); !slices.Equal(again, got) {
				t.Errorf("FaultsLike(%v, %v) is once %v and once %v", n, plain, got, again)
			}
		}
	}
}

// Each result is filled up to its capacity, which must change no other result
// and no argument.
func TestFaultsAreNew(t *testing.T) {
	for _, n := range append(goodNets(), balancedNet(), withEnds(triangleNet(), 1), netOf(3, 2, 1, 0, 1, 1, 1, 2, 4)) {
		spare := withSpare(n)
		all := spare.Wires[:cap(spare.Wires)]
		before := slices.Clone(all)
		first, second, want := faultLists(spare), faultLists(spare), faultLists(n)
		for _, list := range first {
			for i := range list[:cap(list)] {
				list[:cap(list)][i] = impl.Fault{Wire: 77, Weight: 88}
			}
		}
		blind, rest := impl.BlindWires(spare), impl.BlindWires(spare)
		for i := range blind[:cap(blind)] {
			blind[:cap(blind)][i] = 77
		}
		if !slices.EqualFunc(second, want, slices.Equal[[]impl.Fault]) || !slices.EqualFunc(faultLists(spare), want, slices.Equal[[]impl.Fault]) {
			t.Errorf("the faults of %v share memory", n)
		}
		if !slices.Equal(rest, impl.BlindWires(n)) || !slices.Equal(all, before) {
			t.Errorf("BlindWires(%v) shares memory, or %v is changed to %v", n, before, all)
		}
	}
}

// Every search ends, also one that is left early.
func TestFaultsLeaveNoGoroutine(t *testing.T) {
	before := runtime.NumGoroutine()
	for range 100 {
		for _, n := range []impl.Net{netOf(1, 1, 1), withEnds(triangleNet(), 1), balancedNet(), netOf(3, 2, 1, 0, 2, 2, 1, 2, 3), {}} {
			impl.TwinFault(n, impl.Fault{Wire: 0, Weight: 3})
			impl.TwinFault(n, impl.Fault{Wire: 1, Weight: 12})
			impl.AllFaults(n)
			impl.HiddenFaults(n)
			impl.CanLocate(n, 0)
		}
	}
	checkGoroutinesEnd(t, before)
}

// Results depend neither on the search nor on other calls at the same time.
func TestFaultsAtTheSameTime(t *testing.T) {
	n := completeNet(4, 2, 1)
	tail := netOf(3, 2, 1, 0, 1, 1, 1, 2, 4)
	all := reckonedFaults(n)
	var want []impl.Fault
	for _, r := range all {
		want = append(want, r.fault)
	}
	twin, wanted := twinByHand(all, all[len(all)-1])
	var calls sync.WaitGroup
	for range 50 {
		calls.Go(func() {
			for range 10 {
				if got := impl.AllFaults(n); !slices.Equal(got, want) {
					t.Errorf("AllFaults(%v) = %v", n, got)
				}
				if got, ok := impl.TwinFault(n, want[len(want)-1]); got != twin || ok != wanted {
					t.Errorf("TwinFault(%v, %v) = %v, %v", n, want[len(want)-1], got, ok)
				}
				if got, ok := impl.TwinFault(tail, impl.Fault{Wire: 1, Weight: 12}); !ok || got != (impl.Fault{Wire: 1, Weight: 1}) {
					t.Errorf("TwinFault(%v, 1=12) = %v, %v", tail, got, ok)
				}
			}
		})
	}
	calls.Wait()
}
