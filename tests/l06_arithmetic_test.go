package tests

import (
	"slices"
	"testing"

	"loop.example/g01200/impl"
)

type pairFunction struct {
	name string
	of   func(f, g []int64) ([]int64, int64)
}

func pairFunctions() []pairFunction {
	return []pairFunction{
		{"AddPolynomials", impl.AddPolynomials},
		{"MultiplyPolynomials", impl.MultiplyPolynomials},
		{"ComposePolynomials", impl.ComposePolynomials},
		{"CommonDivisor", impl.CommonDivisor},
	}
}

// checkPair fails if a function of two polynomials does not return what is wanted, or changes them.
func checkPair(t *testing.T, call pairFunction, f, g, want []int64, wanted int64) {
	t.Helper()
	first, second := withSpare(f), withSpare(g)
	found, code := call.of(first, second)
	if !slices.Equal(found, want) || code != wanted {
		t.Fatalf("%s(%v, %v) = %v, %d, not %v, %d", call.name, f, g, found, code, want, wanted)
	}
	checkSpareKept(t, call.name, first, f)
	checkSpareKept(t, call.name, second, g)
}

func TestIsPolynomial(t *testing.T) {
	for _, f := range append(samplePolynomials(), nil, ones(17), append(make([]int64, 16), prime-1)) {
		given := withSpare(f)
		if !impl.IsPolynomial(given) {
			t.Errorf("IsPolynomial(%v) = false", f)
		}
		checkSpareKept(t, "IsPolynomial", given, f)
	}
	for _, f := range notPolynomials() {
		if impl.IsPolynomial(f) {
			t.Errorf("IsPolynomial(%v) = true", f)
		}
	}
}

func TestSumsOfPolynomials(t *testing.T) {
	call := pairFunction{"AddPolynomials", impl.AddPolynomials}
	for _, f := range samplePolynomials() {
		for _, g := range samplePolynomials() {
			checkPair(t, call, f, g, plusByHand(f, g), impl.ErrNone)
		}
		checkPair(t, call, f, scaledByHand(f, -1), nil, impl.ErrNone)
		checkPair(t, call, f, nil, f, impl.ErrNone)
		for i := range f {
			// All but the first numbers cancel out.
			opposite := scaledByHand(f, -1)
			copy(opposite[:i], make([]int64, i))
			checkPair(t, call, f, opposite, trimmedByHand(f[:i]), impl.ErrNone)
			checkPair(t, call, opposite, f, trimmedByHand(f[:i]), impl.ErrNone)
		}
	}
	checkPair(t, call, []int64{prime - 1, prime - 1}, []int64{prime - 1, prime - 1}, []int64{prime - 2, prime - 2}, impl.ErrNone)
	checkPair(t, call, []int64{0, 0, 1}, []int64{1, 1}, []int64{1, 1, 1}, impl.ErrNone)
}

func TestProductsOfPolynomials(t *testing.T) {
	call := pairFunction{"MultiplyPolynomials", impl.MultiplyPolynomials}
	for _, f := range samplePolynomials() {
		for _, g := range samplePolynomials() {
			if len(f) > 0 && len(g) > 0 && len(f)+len(g)-2 > impl.MaxPower {
				checkPair(t, call, f, g, nil, impl.ErrLimit)
			} else {
				checkPair(t, call, f, g, timesByHand(f, g), impl.ErrNone)
			}
		}
	}
	checkPair(t, call, []int64{0, 0, 1}, []int64{1, 1}, []int64{0, 0, 1, 1}, impl.ErrNone)
	checkPair(t, call, ones(9), ones(9), []int64{1, 2, 3, 4, 5, 6, 7, 8, 9, 8, 7, 6, 5, 4, 3, 2, 1}, impl.ErrNone)
	checkPair(t, call, ones(9), ones(10), nil, impl.ErrLimit)
	checkPair(t, call, ones(17), []int64{2}, slices.Repeat([]int64{2}, 17), impl.ErrNone)
	checkPair(t, call, ones(17), []int64{0, 1}, nil, impl.ErrLimit)
	checkPair(t, call, ones(17), ones(17), nil, impl.ErrLimit)
	checkPair(t, call, ones(17), nil, nil, impl.ErrNone)
	checkPair(t, call, nil, ones(17), nil, impl.ErrNone)
	checkPair(t, call, nil, nil, nil, impl.ErrNone)
}

func TestCompositions(t *testing.T) {
	call := pairFunction{"ComposePolynomials", impl.ComposePolynomials}
	for _, f := range samplePolynomials() {
		for _, g := range samplePolynomials() {
			if (len(f)-1)*(len(g)-1) > impl.MaxPower {
				checkPair(t, call, f, g, nil, impl.ErrLimit)
			} else {
				checkPair(t, call, f, g, afterByHand(f, g), impl.ErrNone)
			}
		}
		checkPair(t, call, f, []int64{0, 1}, f, impl.ErrNone)
		checkPair(t, call, []int64{0, 1}, f, f, impl.ErrNone)
		checkPair(t, call, nil, f, nil, impl.ErrNone)
		checkPair(t, call, []int64{5}, f, []int64{5}, impl.ErrNone)
		// The value at 0 alone is left of f.
		checkPair(t, call, f, nil, trimmedByHand(f[:min(len(f), 1)]), impl.ErrNone)
	}
	checkPair(t, call, []int64{0, 0, 1}, []int64{1, 1}, []int64{1, 2, 1}, impl.ErrNone)
	checkPair(t, call, []int64{1, 1}, []int64{0, 0, 1}, []int64{1, 0, 1}, impl.ErrNone)
	checkPair(t, call, []int64{prime - 1, 1}, []int64{1}, nil, impl.ErrNone)
	checkPair(t, call, ones(17), []int64{1}, []int64{17}, impl.ErrNone)
	checkPair(t, call, append(make([]int64, 4), 1), append(make([]int64, 4), 1), append(make([]int64, 16), 1), impl.ErrNone)
	checkPair(t, call, ones(3), ones(10), nil, impl.ErrLimit)
	checkPair(t, call, ones(17), ones(3), nil, impl.ErrLimit)
}

// TestValuesOfResults: a sum, a product and a composition have the values that they tell.
func TestValuesOfResults(t *testing.T) {
	s := source(7)
	for _, f := range samplePolynomials() {
		for _, g := range samplePolynomials() {
			x := int64(s.below(prime))
			atF, _ := impl.ValueOf(f, x)
			atG, _ := impl.ValueOf(g, x)
			atBoth, _ := impl.ValueOf(f, atG)
			for i, want := range []int64{field(atF + atG), field(atF * atG), atBoth} {
				call := pairFunctions()[i]
				h, code := call.of(f, g)
				if code != impl.ErrNone {
					continue
				}
				if found, _ := impl.ValueOf(h, x); found != want || !impl.IsPolynomial(h) {
					t.Fatalf("%s(%v, %v) = %v has the value %d at %d, not %d", call.name, f, g, h, found, x, want)
				}
			}
		}
	}
}

func TestDerivatives(t *testing.T) {
	for _, f := range samplePolynomials() {
		given := withSpare(f)
		slope, code := impl.DerivativeOf(given)
		if !slices.Equal(slope, slopeByHand(f)) || code != impl.ErrNone || len(slope) != max(len(f)-1, 0) {
			t.Errorf("DerivativeOf(%v) = %v, %d", f, slope, code)
		}
		checkSpareKept(t, "DerivativeOf", given, f)
	}
	known := [][2][]int64{{nil, nil}, {{7}, nil}, {{0, 1}, {1}}, {{0, 0, 1}, {0, 2}}, {{5, 0, 0, prime - 1}, {0, 0, prime - 3}}}
	known = append(known, [2][]int64{append(make([]int64, 16), 1), append(make([]int64, 15), 16)})
	for _, c := range known {
		if slope, code := impl.DerivativeOf(c[0]); !slices.Equal(slope, c[1]) || code != impl.ErrNone {
			t.Errorf("DerivativeOf(%v) = %v, %d", c[0], slope, code)
		}
	}
	for _, f := range notPolynomials() {
		if slope, code := impl.DerivativeOf(f); len(slope) != 0 || code != impl.ErrInvalid {
			t.Errorf("DerivativeOf(%v) = %v, %d", f, slope, code)
		}
	}
}

// TestCommonDivisorsOfFactors: each factor is left with the lesser one of its powers.
func TestCommonDivisorsOfFactors(t *testing.T) {
	call := pairFunction{"CommonDivisor", impl.CommonDivisor}
	s := source(8)
	for _, factors := range sampleFactors(300) {
		others, both := slices.Clone(factors), slices.Clone(factors)
		for i := range factors {
			others[i].power = int64(s.below(3))
			both[i].power = min(factors[i].power, others[i].power)
		}
		f, g := productOf(factors), productOf(others)
		if len(g) > impl.MaxPower+1 {
			continue
		}
		want := productOf(both)
		for _, by := range []int64{1, 2, prime - 1} {
			checkPair(t, call, scaledByHand(f, by), g, want, impl.ErrNone)
			checkPair(t, call, g, scaledByHand(f, by), want, impl.ErrNone)
		}
	}
}

// TestCommonDivisors: they divide both, and their degrees are those that Sylvester's matrix tells.
func TestCommonDivisors(t *testing.T) {
	for _, f := range samplePolynomials() {
		for _, g := range samplePolynomials() {
			if len(f) == 0 || len(g) == 0 {
				continue
			}
			h, code := impl.CommonDivisor(f, g)
			if code != impl.ErrNone || len(h)-1 != degreeOfDivisor(f, g) || h[len(h)-1] != 1 {
				t.Fatalf("CommonDivisor(%v, %v) = %v, %d", f, g, h, code)
			}
			if len(remainderByHand(f, h)) != 0 || len(remainderByHand(g, h)) != 0 {
				t.Fatalf("CommonDivisor(%v, %v) = %v does not divide both", f, g, h)
			}
		}
	}
}

func TestKnownCommonDivisors(t *testing.T) {
	call := pairFunction{"CommonDivisor", impl.CommonDivisor}
	for _, f := range samplePolynomials() {
		if len(f) == 0 {
			checkPair(t, call, f, nil, nil, impl.ErrState)
			continue
		}
		monic := scaledByHand(f, inverseByHand(f[len(f)-1]))
		checkPair(t, call, f, nil, monic, impl.ErrNone)
		checkPair(t, call, nil, f, monic, impl.ErrNone)
		checkPair(t, call, f, f, monic, impl.ErrNone)
		checkPair(t, call, f, []int64{3}, []int64{1}, impl.ErrNone)
		checkPair(t, call, []int64{3}, f, []int64{1}, impl.ErrNone)
	}
	checkPair(t, call, nil, nil, nil, impl.ErrState)
	checkPair(t, call, []int64{}, nil, nil, impl.ErrState)
	checkPair(t, call, []int64{0, 0, 3}, []int64{0, 2}, []int64{0, 1}, impl.ErrNone)
	checkPair(t, call, poly(-1, 0, 1), poly(2, -3, 1), poly(-1, 1), impl.ErrNone)
	checkPair(t, call, poly(-2, 0, 2), poly(1, 1), poly(1, 1), impl.ErrNone)
}

func TestValuesOfPolynomials(t *testing.T) {
	s := source(9)
	for _, f := range samplePolynomials() {
		points := []int64{0, 1, 2, prime - 1, prime - 2}
		for range 10 {
			points = append(points, int64(s.below(prime)))
		}
		for _, x := range points {
			given := withSpare(f)
			if value, code := impl.ValueOf(given, x); value != valueOfPoly(f, x) || code != impl.ErrNone {
				t.Errorf("ValueOf(%v, %d) = %d, %d", f, x, value, code)
			}
			checkSpareKept(t, "ValueOf", given, f)
		}
		for _, x := range notInField() {
			if value, code := impl.ValueOf(f, x); value != 0 || code != impl.ErrRange {
				t.Errorf("ValueOf(%v, %d) = %d, %d", f, x, value, code)
			}
		}
	}
	for _, f := range notPolynomials() {
		for _, x := range append(notInField(), 0, 1, prime-1) {
			if value, code := impl.ValueOf(f, x); value != 0 || code != impl.ErrInvalid {
				t.Errorf("ValueOf(%v, %d) = %d, %d", f, x, value, code)
			}
		}
	}
}

// TestPairsOfOthers: what is no polynomial is told ahead of limits and states.
func TestPairsOfOthers(t *testing.T) {
	for _, call := range pairFunctions() {
		for _, f := range notPolynomials() {
			for _, g := range [][]int64{nil, {1}, {0, 1}, ones(17)} {
				checkPair(t, call, f, g, nil, impl.ErrInvalid)
				checkPair(t, call, g, f, nil, impl.ErrInvalid)
			}
			checkPair(t, call, f, f, nil, impl.ErrInvalid)
		}
	}
}

func TestPolynomialsAreNewMemory(t *testing.T) {
	pairs := [][2][]int64{{{1, 2, 3}, nil}, {nil, {1, 2, 3}}, {{1, 2, 3}, {0, 1}}, {{0, 1}, {1, 2, 3}}, {{5, 1}, {5, 1}}, {{1}, {1, 1}}}
	for _, pair := range pairs {
		for _, call := range pairFunctions() {
			checkOwnMemory(t, call.name, func() [][]int64 {
				result, _ := call.of(pair[0], pair[1])
				return [][]int64{result}
			})
		}
		checkOwnMemory(t, "DerivativeOf", func() [][]int64 {
			slope, _ := impl.DerivativeOf(pair[0])
			return [][]int64{slope}
		})
	}
}
