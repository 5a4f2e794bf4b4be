package tests

import (
	"slices"
	"testing"

	"loop.example/g01200/impl"
)

// checkMultiplicities also checks that IsCritical tells the same.
func checkMultiplicities(t *testing.T, f []int64, v int64, want []int64) {
	t.Helper()
	given := withSpare(f)
	list, code := impl.MultiplicitiesOf(given, v)
	if !slices.Equal(list, want) || code != impl.ErrNone {
		t.Fatalf("MultiplicitiesOf(%v, %d) = %v, %d, not %v", f, v, list, code, want)
	}
	critical, code := impl.IsCritical(given, v)
	if critical != (want[0] > 1) || code != impl.ErrNone {
		t.Fatalf("IsCritical(%v, %d) = %t, %d, but the multiplicities are %v", f, v, critical, code, want)
	}
	checkSpareKept(t, "MultiplicitiesOf or IsCritical", given, f)
}

// checkNoMultiplicities wants the same code of the functions of one value.
func checkNoMultiplicities(t *testing.T, f []int64, v int64, want int64) {
	t.Helper()
	if list, code := impl.MultiplicitiesOf(f, v); len(list) != 0 || code != want {
		t.Errorf("MultiplicitiesOf(%v, %d) = %v, %d", f, v, list, code)
	}
	if critical, code := impl.IsCritical(f, v); critical || code != want {
		t.Errorf("IsCritical(%v, %d) = %t, %d", f, v, critical, code)
	}
}

// TestMultiplicitiesOfFactors adds a value to products of factors with known powers, some of which
// have no roots in the field itself.
func TestMultiplicitiesOfFactors(t *testing.T) {
	s := source(10)
	for _, factors := range sampleFactors(400) {
		product, want := productOf(factors), multiplicitiesOfFactors(factors)
		for _, v := range []int64{0, 1, prime - 1, int64(s.below(prime))} {
			by := int64(1 + s.below(prime-1))
			checkMultiplicities(t, plusByHand(scaledByHand(product, by), poly(v)), v, want)
		}
	}
}

// TestMultiplicitiesAddUp takes all values at which a polynomial has a root of its derivative in
// the field, and some others.
func TestMultiplicitiesAddUp(t *testing.T) {
	s := source(11)
	for _, f := range samplePolynomials() {
		if len(f) < 2 {
			continue
		}
		values := []int64{0, 1, prime - 1}
		for range 5 {
			values = append(values, int64(s.below(prime)))
		}
		values = append(values, criticalByHand(f)...)
		for _, v := range values {
			list, code := impl.MultiplicitiesOf(f, v)
			if code != impl.ErrNone || sumOfNumbers(list) != int64(len(f)-1) || !slices.IsSortedFunc(list, descending) || slices.Min(list) < 1 {
				t.Errorf("MultiplicitiesOf(%v, %d) = %v, %d", f, v, list, code)
			}
			checkMultiplicities(t, f, v, multiplicitiesByHand(f, v))
		}
	}
}

func sumOfNumbers(list []int64) int64 {
	sum := int64(0)
	for _, x := range list {
		sum += x
	}
	return sum
}

func descending(x, y int64) int { return int(y - x) }

// criticalByHand are the values at the roots that the derivative has in the field.
func criticalByHand(f []int64) []int64 {
	slope := slopeByHand(f)
	var values []int64
	for x := range int64(prime) {
		if hornerByHand(slope, x) == 0 {
			values = append(values, hornerByHand(f, x))
		}
	}
	slices.Sort(values)
	return slices.Compact(values)
}

// hornerByHand is quicker than valueOfPoly.
func hornerByHand(f []int64, x int64) int64 {
	value := int64(0)
	for _, c := range slices.Backward(f) {
		value = field(value*x + c)
	}
	return value
}

// TestQuadraticsAndCubics: critical values are those without a discriminant.
func TestQuadraticsAndCubics(t *testing.T) {
	s := source(12)
	for range 300 {
		f := s.poly(2)
		top := field(f[0] - f[1]*f[1]%prime*inverseByHand(4*f[2]))
		checkMultiplicities(t, f, top, []int64{2})
		checkMultiplicities(t, f, field(top+1+int64(s.below(prime-1))), []int64{1, 1})
		a, b := int64(s.below(prime)), int64(1+s.below(prime-1))
		// (x - a)^2 (x - a - b) has its other critical point at a + 2 b / 3.
		cubic := timesByHand(powerOfPoly(poly(-a, 1), 2), poly(-a-b, 1))
		other := field(-4 * powerByHand(b, 3) % prime * inverseByHand(27))
		for v := range int64(20) {
			want := []int64{1, 1, 1}
			if v == 0 || v == other {
				want = []int64{2, 1}
			}
			checkMultiplicities(t, cubic, v, want)
		}
		checkMultiplicities(t, cubic, other, []int64{2, 1})
	}
}

func TestKnownMultiplicities(t *testing.T) {
	cases := []struct {
		f    []int64
		v    int64
		want []int64
	}{
		{poly(0, 0, 0, 1), 0, []int64{3}},
		{poly(0, 0, 0, 1), 1, []int64{1, 1, 1}},
		{poly(0, 1), 0, []int64{1}},
		{poly(5, 3), 7, []int64{1}},
		{poly(0, 0, 1, 1), 0, []int64{2, 1}},
		{poly(1, 0, 2, 0, 1), 0, []int64{2, 2}},
		{poly(1, 0, 2, 0, 1), 1, []int64{2, 1, 1}},
		{poly(-1, 0, 2), prime - 1, []int64{2}},
		{poly(-1, 0, 2), 1, []int64{1, 1}},
		{append(make([]int64, 16), 1), 0, []int64{16}},
		{append(make([]int64, 16), 1), prime - 1, ones(16)},
		{powerOfPoly(poly(1, 0, 1), 8), 0, []int64{8, 8}},
		{timesByHand(powerOfPoly(poly(3, 1), 9), powerOfPoly(poly(4, 1), 7)), 0, []int64{9, 7}},
	}
	for _, c := range cases {
		checkMultiplicities(t, c.f, c.v, c.want)
	}
}

func TestMultiplicitiesOfOthers(t *testing.T) {
	few := []int64{0, 1, prime - 1}
	for _, f := range notPolynomials() {
		for _, v := range append(notInField(), few...) {
			checkNoMultiplicities(t, f, v, impl.ErrInvalid)
		}
	}
	for _, f := range samplePolynomials() {
		for _, v := range notInField() {
			checkNoMultiplicities(t, f, v, impl.ErrRange)
		}
	}
	for _, f := range [][]int64{nil, {}, {1}, {5}, {prime - 1}} {
		for _, v := range append(notInField(), append(few, 5)...) {
			checkNoMultiplicities(t, f, v, impl.ErrRange)
		}
	}
}

// passportByHand has the multiplicities of both values, and reports whether there are no others.
func passportByHand(f []int64, a, b int64) ([][]int64, bool) {
	n := int64(len(f) - 1)
	first, second := multiplicitiesByHand(f, a), multiplicitiesByHand(f, b)
	return [][]int64{first, second, {n}}, int64(len(first)+len(second)) == n+1
}

// checkPassport wants a Shabat polynomial with a passport.
func checkPassport(t *testing.T, f []int64, a, b int64, want [][]int64) {
	t.Helper()
	given := withSpare(f)
	if yes, code := impl.IsShabat(given, a, b); !yes || code != impl.ErrNone {
		t.Fatalf("IsShabat(%v, %d, %d) = %t, %d", f, a, b, yes, code)
	}
	if passport, code := impl.PassportOfShabat(given, a, b); !sameLists(passport, want) || code != impl.ErrNone {
		t.Fatalf("PassportOfShabat(%v, %d, %d) = %v, %d, not %v", f, a, b, passport, code, want)
	}
	checkSpareKept(t, "IsShabat or PassportOfShabat", given, f)
}

// checkNoPassport wants a code of IsShabat, and one of PassportOfShabat.
func checkNoPassport(t *testing.T, f []int64, a, b int64, want, wanted int64) {
	t.Helper()
	if yes, code := impl.IsShabat(f, a, b); yes || code != want {
		t.Fatalf("IsShabat(%v, %d, %d) = %t, %d", f, a, b, yes, code)
	}
	if passport, code := impl.PassportOfShabat(f, a, b); len(passport) != 0 || code != wanted {
		t.Fatalf("PassportOfShabat(%v, %d, %d) = %v, %d", f, a, b, passport, code)
	}
}

// TestShabatPolynomials takes pairs of the critical values and of others.
func TestShabatPolynomials(t *testing.T) {
	s := source(13)
	yes := 0
	for _, f := range append(samplePolynomials(), knownShabat()...) {
		if len(f) < 2 {
			continue
		}
		values := append(criticalByHand(f), 0, 1, int64(s.below(prime)))
		for _, a := range values {
			for _, b := range values {
				if a == b {
					checkNoPassport(t, f, a, b, impl.ErrRange, impl.ErrRange)
				} else if passport, good := passportByHand(f, a, b); good {
					checkPassport(t, f, a, b, passport)
					yes++
				} else {
					checkNoPassport(t, f, a, b, impl.ErrNone, impl.ErrState)
				}
			}
		}
	}
	if yes < 100 {
		t.Errorf("only %d pairs of values are those of Shabat polynomials", yes)
	}
}

// TestShabatValues: of all values in the field, a Shabat polynomial has no critical ones but the two.
func TestShabatValues(t *testing.T) {
	for _, f := range knownShabat() {
		critical := criticalByHand(f)
		for _, v := range critical {
			if yes, code := impl.IsCritical(f, v); !yes || code != impl.ErrNone {
				t.Errorf("IsCritical(%v, %d) = %t, %d", f, v, yes, code)
			}
		}
		found := int64(0)
		for v := range int64(prime) {
			if yes, _ := impl.IsCritical(f, v); yes {
				found++
			}
		}
		if found > 2 || found < int64(len(critical)) {
			t.Errorf("%v has %d critical values", f, found)
		}
	}
}

// knownShabat are Shabat polynomials that are no stars, chains or forks: x^3 (x^2 + 5 x + 40) for 0
// and 1728, x^3 (3 x^2 + 15 x + 20) for 0 and -16, and some with few terms.
func knownShabat() [][]int64 {
	return [][]int64{
		poly(0, 0, 0, 40, 5, 1),
		poly(0, 0, 0, 20, 15, 3),
		poly(7, 1),
		poly(0, 0, 1),
		poly(0, -3, 0, 1),
		poly(1, 0, -2, 0, 1),
		poly(0, 0, 0, 4, -3),
		poly(4, 0, 0, -3, 0, 0, 1),
	}
}

func TestKnownPassports(t *testing.T) {
	checkPassport(t, poly(0, 0, 0, 40, 5, 1), 0, 1728, [][]int64{{3, 1, 1}, {2, 2, 1}, {5}})
	checkPassport(t, poly(0, 0, 0, 40, 5, 1), 1728, 0, [][]int64{{2, 2, 1}, {3, 1, 1}, {5}})
	checkPassport(t, poly(0, 0, 0, 20, 15, 3), 0, prime-16, [][]int64{{3, 1, 1}, {3, 1, 1}, {5}})
	checkPassport(t, poly(0, -3, 0, 1), 2, prime-2, [][]int64{{2, 1}, {2, 1}, {3}})
	checkPassport(t, poly(0, 1), 3, 4, [][]int64{{1}, {1}, {1}})
	checkPassport(t, poly(0, 0, 1), 3, 0, [][]int64{{1, 1}, {2}, {2}})
	// 0 and 1 alone are critical, but not for 0 and 2, and x^4 + x has three critical values.
	checkNoPassport(t, poly(0, 0, 0, 4, -3), 0, 2, impl.ErrNone, impl.ErrState)
	checkNoPassport(t, poly(0, 0, 1), 3, 4, impl.ErrNone, impl.ErrState)
	checkNoPassport(t, poly(0, 1, 0, 0, 1), 0, 1, impl.ErrNone, impl.ErrState)
}

func TestShabatOfOthers(t *testing.T) {
	pairs := [][2]int64{{0, 0}, {5, 5}, {prime - 1, prime - 1}}
	for _, far := range notInField() {
		pairs = append(pairs, [2]int64{far, 0}, [2]int64{0, far}, [2]int64{far, far})
	}
	for _, pair := range pairs {
		for _, f := range samplePolynomials() {
			checkNoPassport(t, f, pair[0], pair[1], impl.ErrRange, impl.ErrRange)
		}
	}
	for _, pair := range append(pairs, [2]int64{0, 1}, [2]int64{1, prime - 1}) {
		for _, f := range [][]int64{nil, {1}, {prime - 1}} {
			checkNoPassport(t, f, pair[0], pair[1], impl.ErrRange, impl.ErrRange)
		}
		for _, f := range notPolynomials() {
			checkNoPassport(t, f, pair[0], pair[1], impl.ErrInvalid, impl.ErrInvalid)
		}
	}
}

func TestMultiplicitiesAreNewMemory(t *testing.T) {
	f := poly(0, 0, 0, 40, 5, 1)
	checkOwnMemory(t, "MultiplicitiesOf", func() [][]int64 {
		list, _ := impl.MultiplicitiesOf(f, 0)
		return [][]int64{list}
	})
	for _, g := range [][]int64{f, poly(0, 1), poly(0, 0, 1)} {
		checkOwnMemory(t, "PassportOfShabat", func() [][]int64 {
			passport, _ := impl.PassportOfShabat(g, 0, 1728)
			return passport
		})
	}
}
