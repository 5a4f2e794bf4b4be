package tests

import (
	"slices"
	"testing"

	"loop.example/g01200/impl"
)

func checkNext(t *testing.T, list []impl.Fraction) int64 {
	t.Helper()
	want, wanted := nextByHand(list)
	given := withSpareItems(list, unit)
	if m, code := impl.NextMove(given); m != want || code != wanted {
		t.Fatalf("NextMove(%v) = %v, %d; want %v, %d", list, m, code, want, wanted)
	}
	checkItemsKept(t, "NextMove", given, list, unit)
	return wanted
}

func TestNextMove(t *testing.T) {
	counts := map[int64]int{}
	for _, list := range sampleSets() {
		counts[checkNext(t, list)]++
	}
	for _, x := range fractionsUpTo(45) {
		counts[checkNext(t, []impl.Fraction{x})]++
	}
	for _, x := range greatFractions() {
		counts[checkNext(t, []impl.Fraction{x})]++
	}
	if counts[impl.ErrNone] < 1000 || counts[impl.ErrLimit] < 300 || counts[impl.ErrState] < 8 {
		t.Errorf("next moves by their codes: %v", counts)
	}
}

func TestKnownNextMoves(t *testing.T) {
	flip, turn := impl.Move{Kind: 0}, impl.Move{Kind: 1}
	cases := []struct {
		list []impl.Fraction
		want impl.Move
		code int64
	}{
		{[]impl.Fraction{over(1, 2)}, power(1, 1), 0},
		{[]impl.Fraction{zero, over(2, 7), unit}, power(2, 5), 0},
		{[]impl.Fraction{over(1, 3), over(1, 2), over(3, 1)}, power(1, 2), 0},
		{[]impl.Fraction{over(-1, 1), over(1, 2)}, flip, 0},
		{[]impl.Fraction{over(-part, 1), zero}, flip, 0},
		{[]impl.Fraction{over(-1, part), infinity}, flip, 0},
		{[]impl.Fraction{zero, unit, over(part, part-1)}, turn, 0},
		{[]impl.Fraction{over(part, 1), infinity}, turn, 0},
		// First and Last of 20 and 21.
		{[]impl.Fraction{over(1, 21)}, power(1, 20), 0},
		{[]impl.Fraction{over(1, 22)}, impl.Move{}, impl.ErrLimit},
		{[]impl.Fraction{over(20, 21)}, power(20, 1), 0},
		{[]impl.Fraction{over(21, 22)}, impl.Move{}, impl.ErrLimit},
		{[]impl.Fraction{over(20, 39)}, power(20, 19), 0},
		{[]impl.Fraction{over(19, 39)}, power(19, 20), 0},
		{[]impl.Fraction{over(20, 41)}, impl.Move{}, impl.ErrLimit},
		{[]impl.Fraction{over(21, 41)}, impl.Move{}, impl.ErrLimit},
		{[]impl.Fraction{over(1, part)}, impl.Move{}, impl.ErrLimit},
		{[]impl.Fraction{over(part-1, part)}, impl.Move{}, impl.ErrLimit},
		// The first one tells, whatever is behind it.
		{[]impl.Fraction{over(1, 22), over(1, 2)}, impl.Move{}, impl.ErrLimit},
		{[]impl.Fraction{over(1, 3), over(21, 22)}, power(1, 2), 0},
		{[]impl.Fraction{over(-1, 3), over(21, 22)}, flip, 0},
	}
	for _, c := range cases {
		if m, code := impl.NextMove(c.list); m != c.want || code != c.code {
			t.Errorf("NextMove(%v) = %v, %d; want %v, %d", c.list, m, code, c.want, c.code)
		}
	}
}

func subsetsOfCorners() [][]impl.Fraction {
	return [][]impl.Fraction{nil, {}, {zero}, {unit}, {infinity}, {zero, unit}, {zero, infinity}, {unit, infinity}, {zero, unit, infinity}}
}

func TestDoneSets(t *testing.T) {
	for _, list := range subsetsOfCorners() {
		if m, code := impl.NextMove(list); m != (impl.Move{}) || code != impl.ErrState {
			t.Errorf("NextMove(%v) = %v, %d", list, m, code)
		}
		if chain, code := impl.ChainOfSet(list); len(chain) != 0 || code != impl.ErrNone {
			t.Errorf("ChainOfSet(%v) = %v, %d", list, chain, code)
		}
	}
}

func checkChain(t *testing.T, list []impl.Fraction) (int, int64) {
	t.Helper()
	want, wanted := chainByHand(list)
	given := withSpareItems(list, unit)
	if chain, code := impl.ChainOfSet(given); !slices.Equal(chain, want) || code != wanted {
		t.Fatalf("ChainOfSet(%v) = %v, %d; want %v, %d", list, chain, code, want, wanted)
	}
	checkItemsKept(t, "ChainOfSet", given, list, unit)
	return len(want), wanted
}

func TestChainOfSet(t *testing.T) {
	counts, lengths := map[int64]int{}, map[int]int{}
	check := func(list []impl.Fraction) {
		t.Helper()
		length, code := checkChain(t, list)
		counts[code]++
		if code == impl.ErrNone {
			lengths[length]++
		}
	}
	for _, list := range sampleSets() {
		check(list)
	}
	for _, x := range fractionsUpTo(45) {
		check([]impl.Fraction{x})
	}
	for _, list := range longChains() {
		check(list)
	}
	if counts[impl.ErrNone] < 500 || counts[impl.ErrLimit] < 1000 {
		t.Errorf("chains by their codes: %v", counts)
	}
	for length := range 6 {
		if lengths[length] == 0 {
			t.Errorf("no chain of %d moves", length)
		}
	}
}

// longChains are sets with chains of four and five moves.
func longChains() [][]impl.Fraction {
	return [][]impl.Fraction{
		{over(-4, 1), over(-2, 3)},
		{over(-3, 1), over(-1, 1)},
		{over(-2, 3), over(-1, 3), over(2, 3)},
		{over(-1, 5), over(2, 5), over(3, 5)},
		{over(-3, 2), over(1, 2)},
		{over(-1, 1), over(1, 2)},
		{over(-1, 1), zero, over(1, 2), unit, infinity},
		{over(-9, 10), over(9, 10)},
		{over(-7, 8), over(7, 8)},
	}
}

func TestKnownChains(t *testing.T) {
	flip, turn := impl.Move{Kind: 0}, impl.Move{Kind: 1}
	cases := []struct {
		list []impl.Fraction
		want []impl.Move
	}{
		{[]impl.Fraction{over(1, 2)}, []impl.Move{power(1, 1)}},
		{[]impl.Fraction{zero, over(1, 2), unit, infinity}, []impl.Move{power(1, 1)}},
		{[]impl.Fraction{over(2, 7)}, []impl.Move{power(2, 5)}},
		{[]impl.Fraction{over(7, 2)}, []impl.Move{turn, power(2, 5)}},
		{[]impl.Fraction{over(-5, 2)}, []impl.Move{flip, turn, power(2, 5)}},
		{[]impl.Fraction{over(21, 1)}, []impl.Move{turn, power(1, 20)}},
		{[]impl.Fraction{over(-20, 1)}, []impl.Move{flip, turn, power(1, 20)}},
		{[]impl.Fraction{over(1, 3), over(2, 3)}, []impl.Move{power(1, 2), power(1, 1)}},
		{[]impl.Fraction{over(-1, 1), over(1, 2)}, []impl.Move{flip, power(1, 1), flip, turn, power(1, 8)}},
	}
	for _, c := range cases {
		if chain, code := impl.ChainOfSet(c.list); !slices.Equal(chain, c.want) || code != impl.ErrNone {
			t.Errorf("ChainOfSet(%v) = %v, %d; want %v", c.list, chain, code, c.want)
		}
		checkOwnItems(t, "ChainOfSet", func() []impl.Move {
			chain, _ := impl.ChainOfSet(c.list)
			return chain
		}, power(9, 9))
	}
}

func TestChainsBeyondTheirLimits(t *testing.T) {
	cases := map[string][]impl.Fraction{
		"a move that is too great":          {over(1, 22)},
		"one that is, behind two":           {over(-21, 1)},
		"a value that is too great":         {over(1, 3), over(999, 1000)},
		"one that is, of the first move":    {over(-part, 1)},
		"without end, 0 between":            {over(-1, 1), over(2, 1)},
		"without end, from and to the same": {over(-1, 1), over(3, 1)},
		"without end, of small parts":       {over(-1, 3), over(4, 3)},
		"without end, with the corners":     {over(-1, 2), zero, unit, over(3, 2), infinity},
	}
	for name, list := range cases {
		if chain, code := impl.ChainOfSet(list); len(chain) != 0 || code != impl.ErrLimit {
			t.Errorf("%s: ChainOfSet(%v) = %v, %d", name, list, chain, code)
		}
	}
}

// TestChainsLeadToCorners is promise 10, and the first part of the Guarantee: each fraction is led
// to 0, 1 or infinity, and so is the set, not earlier.
func TestChainsLeadToCorners(t *testing.T) {
	sets := slices.Concat(sampleSets(), longChains())
	for _, x := range fractionsUpTo(30) {
		sets = append(sets, []impl.Fraction{x}, []impl.Fraction{x, infinity})
	}
	moved := 0
	for _, list := range sets {
		chain, code := impl.ChainOfSet(list)
		if code != impl.ErrNone || len(chain) == 0 {
			continue
		}
		moved++
		for _, x := range list {
			value, code := impl.RunMoves(chain, x)
			if code != impl.ErrNone || !slices.Contains([]impl.Fraction{zero, unit, infinity}, value) {
				t.Errorf("the chain %v of %v leads %v to %v, %d", chain, list, x, value, code)
			}
		}
		checkSteps(t, list, chain)
		checkDegree(t, chain)
	}
	if moved < 500 {
		t.Errorf("only %d sets were moved", moved)
	}
}

// checkSteps follows a chain from set to set.
func checkSteps(t *testing.T, list []impl.Fraction, chain []impl.Move) {
	t.Helper()
	start := list
	for i, m := range chain {
		if next, code := impl.NextMove(list); next != m || code != impl.ErrNone {
			t.Fatalf("the move %d of the chain %v of %v: NextMove(%v) = %v, %d", i, chain, start, list, next, code)
		}
		image, code := impl.ImageOfSet(m, list)
		if code != impl.ErrNone || !impl.IsSet(image) || len(image) > len(list) {
			t.Fatalf("the image of %v by %v is %v, %d", list, m, image, code)
		}
		list = image
	}
	if _, code := impl.NextMove(list); code != impl.ErrState {
		t.Fatalf("the chain %v of %v ends at %v", chain, start, list)
	}
}

func TestNoChainsOfSets(t *testing.T) {
	for name, list := range notSets() {
		if m, code := impl.NextMove(list); m != (impl.Move{}) || code != impl.ErrInvalid {
			t.Errorf("%s: NextMove = %v, %d", name, m, code)
		}
		if chain, code := impl.ChainOfSet(list); len(chain) != 0 || code != impl.ErrInvalid {
			t.Errorf("%s: ChainOfSet = %v, %d", name, chain, code)
		}
	}
}
