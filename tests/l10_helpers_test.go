package tests

import (
	"math"
	"math/big"
	"slices"
	"testing"

	"loop.example/g01200/impl"
)

const (
	part = int64(impl.MaxPart)
	low  = int64(math.MinInt64)
	high = int64(math.MaxInt64)
)

var (
	zero     = impl.Fraction{Num: 0, Den: 1}
	unit     = impl.Fraction{Num: 1, Den: 1}
	infinity = impl.Fraction{Num: 1, Den: 0}
)

func over(num, den int64) impl.Fraction { return impl.Fraction{Num: num, Den: den} }

func power(m, n int64) impl.Move { return impl.Move{Kind: 2, First: m, Last: n} }

// rational is x as a number, and nil for infinity.
func rational(x impl.Fraction) *big.Rat {
	if x == infinity {
		return nil
	}
	return big.NewRat(x.Num, x.Den)
}

// fractionByHand is the fraction of a number, if it is not too great.
func fractionByHand(r *big.Rat) (impl.Fraction, int64) {
	if r == nil {
		return infinity, impl.ErrNone
	}
	limit := big.NewInt(1000000000)
	if r.Num().CmpAbs(limit) > 0 || r.Denom().CmpAbs(limit) > 0 {
		return impl.Fraction{}, impl.ErrLimit
	}
	return over(r.Num().Int64(), r.Denom().Int64()), impl.ErrNone
}

func isFractionByHand(x impl.Fraction) bool {
	if x.Num < -1000000000 || x.Num > 1000000000 || x.Den < 1 || x.Den > 1000000000 {
		return x.Num == 1 && x.Den == 0
	}
	r := big.NewRat(x.Num, x.Den)
	return r.Num().Int64() == x.Num && r.Denom().Int64() == x.Den
}

func compareByHand(x, y impl.Fraction) int {
	switch {
	case x == y:
		return 0
	case x == infinity:
		return 1
	case y == infinity:
		return -1
	}
	return rational(x).Cmp(rational(y))
}

func isMoveByHand(m impl.Move) bool {
	switch m.Kind {
	case 0, 1:
		return m.First == 0 && m.Last == 0
	case 2:
		return m.First > 0 && m.First < 21 && m.Last > 0 && m.Last < 21
	}
	return false
}

// rootsProduct is x^m (1 - x)^n.
func rootsProduct(x *big.Rat, m, n int64) *big.Rat {
	product := big.NewRat(1, 1)
	for range m {
		product.Mul(product, x)
	}
	rest := new(big.Rat).Sub(big.NewRat(1, 1), x)
	for range n {
		product.Mul(product, rest)
	}
	return product
}

// moveByHand scales the product of the roots by what it is at m / (m + n).
func moveByHand(m impl.Move, x impl.Fraction) (impl.Fraction, int64) {
	switch {
	case m.Kind == 1 && x == infinity:
		return zero, impl.ErrNone
	case x == infinity, m.Kind == 1 && x == zero:
		return infinity, impl.ErrNone
	case m.Kind == 0:
		return fractionByHand(new(big.Rat).Sub(big.NewRat(1, 1), rational(x)))
	case m.Kind == 1:
		return fractionByHand(new(big.Rat).Inv(rational(x)))
	}
	scale := rootsProduct(big.NewRat(m.First, m.First+m.Last), m.First, m.Last)
	return fractionByHand(new(big.Rat).Quo(rootsProduct(rational(x), m.First, m.Last), scale))
}

func isSetByHand(list []impl.Fraction) bool {
	for i, y := range list {
		if !isFractionByHand(y) {
			return false
		}
		for _, x := range list[:i] {
			if compareByHand(x, y) != -1 {
				return false
			}
		}
	}
	return len(list) < 13
}

// imageByHand puts each value to its place among those before.
func imageByHand(m impl.Move, list []impl.Fraction) ([]impl.Fraction, int64) {
	var image []impl.Fraction
	for _, x := range list {
		value, code := moveByHand(m, x)
		if code != impl.ErrNone {
			return nil, code
		}
		place := 0
		for place < len(image) && compareByHand(image[place], value) < 0 {
			place++
		}
		if place == len(image) || image[place] != value {
			image = slices.Insert(image, place, value)
		}
	}
	return image, impl.ErrNone
}

func nextByHand(list []impl.Fraction) (impl.Move, int64) {
	for _, x := range list {
		switch {
		case x == zero, x == unit, x == infinity:
			continue
		case compareByHand(x, zero) < 0:
			return impl.Move{}, impl.ErrNone
		case compareByHand(x, unit) > 0:
			return impl.Move{Kind: 1}, impl.ErrNone
		case x.Num > 20, x.Den > x.Num+20:
			return impl.Move{}, impl.ErrLimit
		}
		return power(x.Num, x.Den-x.Num), impl.ErrNone
	}
	return impl.Move{}, impl.ErrState
}

func chainByHand(list []impl.Fraction) ([]impl.Move, int64) {
	var chain []impl.Move
	for range 21 {
		m, code := nextByHand(list)
		if code == impl.ErrState {
			return chain, impl.ErrNone
		}
		if code == impl.ErrNone {
			chain = append(chain, m)
			list, code = imageByHand(m, list)
		}
		if code != impl.ErrNone {
			return nil, code
		}
	}
	return nil, impl.ErrLimit
}

// fractionsUpTo returns all fractions with parts up to n, in ascending order.
func fractionsUpTo(n int64) []impl.Fraction {
	var all []impl.Fraction
	for den := range n + 1 {
		for num := -n; num <= n; num++ {
			if x := over(num, den); isFractionByHand(x) {
				all = append(all, x)
			}
		}
	}
	slices.SortFunc(all, compareByHand)
	return all
}

// greatFractions have parts near their limit.
func greatFractions() []impl.Fraction {
	var all []impl.Fraction
	for _, num := range []int64{1, 2, 3, 999999929, part - 2, part - 1, part} {
		for _, den := range []int64{1, 2, 3, 999999929, part - 2, part - 1, part} {
			if isFractionByHand(over(num, den)) {
				all = append(all, over(num, den), over(-num, den))
			}
		}
	}
	return all
}

// fraction has parts of at most a limit.
func (s *source) fraction(limit int) impl.Fraction {
	r := big.NewRat(int64(s.below(2*limit+1)-limit), int64(1+s.below(limit)))
	return over(r.Num().Int64(), r.Denom().Int64())
}

// set has at most count fractions, with 0, 1 and infinity among them now and then.
func (s *source) set(count int, limit int) []impl.Fraction {
	var list []impl.Fraction
	for range count {
		switch s.below(8) {
		case 0:
			list = append(list, []impl.Fraction{zero, unit, infinity}[s.below(3)])
		default:
			list = append(list, s.fraction(limit))
		}
	}
	slices.SortFunc(list, compareByHand)
	return slices.Compact(list)
}

// sampleSets returns all sets of at most 2 fractions with parts up to 6, and others of up to 12.
func sampleSets() [][]impl.Fraction {
	few := fractionsUpTo(6)
	sets := [][]impl.Fraction{nil}
	for i, x := range few {
		sets = append(sets, []impl.Fraction{x})
		for _, y := range few[:i] {
			sets = append(sets, []impl.Fraction{y, x})
		}
	}
	s := source(10)
	for _, limit := range []int{3, 10, 40, 1000, 1000000000} {
		for count := 1; count <= 12; count++ {
			for range 12 {
				sets = append(sets, s.set(count, limit))
			}
		}
	}
	return sets
}

func allMoves() []impl.Move {
	moves := []impl.Move{{Kind: 0}, {Kind: 1}}
	for m := int64(1); m <= 20; m++ {
		for n := int64(1); n <= 20; n++ {
			moves = append(moves, power(m, n))
		}
	}
	return moves
}

// moves has a move of each Kind as often as of each other one.
func (s *source) moves(count int, greatest int) []impl.Move {
	var list []impl.Move
	for range count {
		m := impl.Move{Kind: int64(s.below(3))}
		if m.Kind == 2 {
			m = power(int64(1+s.below(greatest)), int64(1+s.below(greatest)))
		}
		list = append(list, m)
	}
	return list
}

func notFractions() []impl.Fraction {
	parts := [][2]int64{
		{0, 0}, {0, 2}, {0, -1}, {0, part}, {-1, 0}, {2, 0}, {-part, 0}, {part, 0},
		{2, 2}, {2, 4}, {-2, 4}, {6, 4}, {15, 35}, {part, part}, {-part, part}, {part, 2}, {part - 1, 3}, {5, part},
		{1, -1}, {1, -2}, {-1, -2}, {3, -part}, {-3, -part},
		{part + 1, 1}, {-part - 1, 1}, {1, part + 1}, {-1, part + 1}, {part + 1, part}, {part, part + 1}, {part + 1, 0}, {part + 1, part + 2},
	}
	for _, number := range []int64{low, low + 1, high, 1 << 32, 1<<32 + 1, -1 << 32, 1 << 62} {
		parts = append(parts, [][2]int64{{number, 1}, {1, number}, {number, 0}, {0, number}, {number, number}, {number, 2}}...)
	}
	var list []impl.Fraction
	for _, x := range parts {
		list = append(list, over(x[0], x[1]))
	}
	return list
}

func notMoves() []impl.Move {
	numbers := [][3]int64{
		{0, 1, 0}, {0, 0, 1}, {0, 1, 1}, {0, -1, 0}, {0, 0, -1}, {0, 20, 20},
		{1, 1, 0}, {1, 0, 1}, {1, 1, 1}, {1, -1, 0}, {1, 0, -1}, {1, 20, 20},
		{2, 0, 0}, {2, 0, 1}, {2, 1, 0}, {2, 21, 1}, {2, 1, 21}, {2, 21, 21}, {2, -1, 1}, {2, 1, -1}, {2, 20, 21}, {2, 21, 20}, {2, -3, 5},
		{-1, 0, 0}, {-1, 1, 1}, {-2, 1, 1}, {3, 0, 0}, {3, 1, 1}, {258, 1, 1}, {256, 0, 0}, {257, 0, 0},
	}
	for _, number := range []int64{low, high, 1 << 32, 1<<32 + 1, -1 << 32} {
		numbers = append(numbers, [][3]int64{{number, 0, 0}, {number + 2, 1, 1}, {0, number, 0}, {1, 0, number}, {2, number, 1}, {2, 1, number}, {2, number, number}}...)
	}
	var list []impl.Move
	for _, m := range numbers {
		list = append(list, impl.Move{Kind: m[0], First: m[1], Last: m[2]})
	}
	return list
}

// notSets are named by what is wrong with them.
func notSets() map[string][]impl.Fraction {
	var thirteen []impl.Fraction
	for num := range int64(13) {
		thirteen = append(thirteen, over(num, 1))
	}
	sets := map[string][]impl.Fraction{
		"thirteen fractions": thirteen,
		"thousand fractions": slices.Repeat([]impl.Fraction{zero}, 1000),
		"the same twice":     {zero, over(1, 2), over(1, 2), unit},
		"infinity twice":     {unit, infinity, infinity},
		"two exchanged":      {zero, unit, over(1, 2)},
		"infinity ahead":     {infinity, zero},
		"infinity between":   {zero, infinity, unit},
		"descending":         {over(2, 1), over(-1, 1)},
		"descending below 0": {over(-1, 3), over(-1, 2)},
		"near, exchanged":    {over(part-1, part), over(part-2, part-1)},
	}
	for _, x := range notFractions() {
		name := big.NewInt(x.Num).String() + " / " + big.NewInt(x.Den).String()
		sets[name+" alone"] = []impl.Fraction{x}
		sets[name+" ahead"] = []impl.Fraction{x, infinity}
		sets[name+" behind"] = []impl.Fraction{over(-part, 1), x}
	}
	return sets
}

// withSpareItems copies a list with some items behind it.
func withSpareItems[T any](list []T, item T) []T {
	return append(slices.Clone(list), item, item)[:len(list)]
}

// checkItemsKept fails if what withSpareItems made has been changed.
func checkItemsKept[T comparable](t *testing.T, name string, list []T, want []T, item T) {
	t.Helper()
	if !slices.Equal(list[:len(want)+2], append(slices.Clone(want), item, item)) {
		t.Errorf("%s changes its argument %v to %v", name, want, list[:len(want)+2])
	}
}

// checkOwnItems overwrites a result with its spare capacity, and fails if this changes the next one.
func checkOwnItems[T comparable](t *testing.T, name string, items func() []T, item T) {
	t.Helper()
	result := items()
	want := slices.Clone(result)
	for i := range result[:cap(result)] {
		result[:cap(result)][i] = item
	}
	if !slices.Equal(items(), want) {
		t.Errorf("%s: the result is no new memory", name)
	}
}
