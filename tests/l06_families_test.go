package tests

import (
	"math"
	"slices"
	"testing"

	"loop.example/g01200/impl"
)

// binomial is a binomial coefficient.
func binomial(n, k int64) int64 {
	return factorialByHand(n) / factorialByHand(k) / factorialByHand(n-k)
}

// repeated is a list of x as often as told, and then of y.
func repeated(x, times, y, others int64) []int64 {
	return append(slices.Repeat([]int64{x}, int(times)), slices.Repeat([]int64{y}, int(others))...)
}

// checkCriticalValues wants the critical values in the field to be those of a list.
func checkCriticalValues(t *testing.T, f []int64, want ...int64) {
	t.Helper()
	for v := range int64(prime) {
		if yes, code := impl.IsCritical(f, v); yes != slices.Contains(want, v) || code != impl.ErrNone {
			t.Fatalf("IsCritical(%v, %d) = %t, %d", f, v, yes, code)
		}
	}
}

func mustStar(t *testing.T, n int64) []int64 {
	t.Helper()
	f, code := impl.StarPolynomial(n)
	if code != impl.ErrNone || !impl.IsPolynomial(f) || int64(len(f)) != n+1 {
		t.Fatalf("StarPolynomial(%d) = %v, %d", n, f, code)
	}
	return f
}

func mustChain(t *testing.T, n int64) []int64 {
	t.Helper()
	f, code := impl.ChainPolynomial(n)
	if code != impl.ErrNone || !impl.IsPolynomial(f) || int64(len(f)) != n+1 {
		t.Fatalf("ChainPolynomial(%d) = %v, %d", n, f, code)
	}
	return f
}

func mustFork(t *testing.T, m, n int64) []int64 {
	t.Helper()
	f, code := impl.ForkPolynomial(m, n)
	if code != impl.ErrNone || !impl.IsPolynomial(f) || int64(len(f)) != m+n+1 {
		t.Fatalf("ForkPolynomial(%d, %d) = %v, %d", m, n, f, code)
	}
	return f
}

// TestStarPolynomials: x^n has the critical value 0 alone, so that it has a passport for 0 and any
// other value.
func TestStarPolynomials(t *testing.T) {
	for n := int64(1); n <= impl.MaxPower; n++ {
		f := mustStar(t, n)
		if !slices.Equal(f, append(make([]int64, n), 1)) {
			t.Errorf("StarPolynomial(%d) = %v", n, f)
		}
		for _, v := range []int64{1, 2, 5000, prime - 1} {
			checkPassport(t, f, 0, v, [][]int64{{n}, ones(int(n)), {n}})
			checkPassport(t, f, v, 0, [][]int64{ones(int(n)), {n}, {n}})
		}
		if n == 1 {
			checkPassport(t, f, 1, 2, [][]int64{{1}, {1}, {1}})
			checkCriticalValues(t, f)
		} else {
			checkNoPassport(t, f, 1, 2, impl.ErrNone, impl.ErrState)
			checkCriticalValues(t, f, 0)
		}
	}
}

func TestChainPolynomials(t *testing.T) {
	known := [][]int64{poly(0, 1), poly(-1, 0, 2), poly(0, -3, 0, 4), poly(1, 0, -8, 0, 8), poly(0, 5, 0, -20, 0, 16), poly(-1, 0, 18, 0, -48, 0, 32)}
	for i, want := range known {
		if f := mustChain(t, int64(i+1)); !slices.Equal(f, want) {
			t.Errorf("ChainPolynomial(%d) = %v, not %v", i+1, f, want)
		}
	}
	for n := int64(1); n <= impl.MaxPower; n++ {
		f := mustChain(t, n)
		// At half of y + 1 / y the value is half of y^n + 1 / y^n.
		half := inverseByHand(2)
		for y := int64(1); y <= 60; y++ {
			inverse := inverseByHand(y)
			x, want := field((y+inverse)*half), field((powerByHand(y, n)+powerByHand(inverse, n))*half)
			if value := valueOfPoly(f, x); value != want {
				t.Fatalf("ChainPolynomial(%d) = %v, with the value %d at %d, not %d", n, f, value, x, want)
			}
		}
		want := [][]int64{repeated(2, n/2, 1, n%2), repeated(2, n/2, 1, n%2), {n}}
		if n%2 == 0 {
			want[0] = repeated(2, n/2-1, 1, 2)
		}
		checkPassport(t, f, 1, prime-1, want)
		checkPassport(t, f, prime-1, 1, [][]int64{want[1], want[0], want[2]})
		critical := []int64{1, prime - 1}
		if n <= 2 {
			critical = critical[3-n:]
		}
		checkCriticalValues(t, f, critical...)
	}
}

// forkByHand has the numbers of (1 - x)^n, scaled, from the power m on.
func forkByHand(m, n int64) []int64 {
	scale := powerByHand(m+n, m+n) * inverseByHand(powerByHand(m, m)) % prime * inverseByHand(powerByHand(n, n)) % prime
	f := make([]int64, m)
	for k := range n + 1 {
		sign := 1 - 2*(k%2)
		f = append(f, field(sign*field(binomial(n, k))*scale))
	}
	return f
}

func TestForkPolynomials(t *testing.T) {
	for m := int64(1); m < impl.MaxPower; m++ {
		for n := int64(1); m+n <= impl.MaxPower; n++ {
			f := mustFork(t, m, n)
			if !slices.Equal(f, forkByHand(m, n)) {
				t.Errorf("ForkPolynomial(%d, %d) = %v, not %v", m, n, f, forkByHand(m, n))
			}
			if value := valueOfPoly(f, field(m*inverseByHand(m+n))); value != 1 {
				t.Errorf("ForkPolynomial(%d, %d) = %v has the value %d", m, n, f, value)
			}
			want := [][]int64{{max(m, n), min(m, n)}, repeated(2, 1, 1, m+n-2), {m + n}}
			checkPassport(t, f, 0, 1, want)
			checkPassport(t, f, 1, 0, [][]int64{want[1], want[0], want[2]})
			critical := []int64{1, 0}
			if m+n == 2 {
				critical = critical[:1]
			}
			checkCriticalValues(t, f, critical...)
		}
	}
	if f := mustFork(t, 1, 1); !slices.Equal(f, poly(0, 4, -4)) {
		t.Errorf("ForkPolynomial(1, 1) = %v", f)
	}
}

func TestFamiliesOutOfRange(t *testing.T) {
	far := []int64{0, -1, -16, math.MinInt64, math.MaxInt64, 1 << 32, 1<<32 + 3}
	for _, n := range append(far, 17, 18) {
		if f, code := impl.StarPolynomial(n); len(f) != 0 || code != impl.ErrRange {
			t.Errorf("StarPolynomial(%d) = %v, %d", n, f, code)
		}
		if f, code := impl.ChainPolynomial(n); len(f) != 0 || code != impl.ErrRange {
			t.Errorf("ChainPolynomial(%d) = %v, %d", n, f, code)
		}
	}
	pairs := [][2]int64{{16, 1}, {1, 16}, {8, 9}, {9, 8}, {16, 16}, {17, 1}, {17, 0}, {20, -4}, {-4, 20}}
	for _, x := range far {
		for _, y := range append(far, 1, 3, 15, 16, 17) {
			pairs = append(pairs, [2]int64{x, y}, [2]int64{y, x})
		}
	}
	for _, pair := range pairs {
		if f, code := impl.ForkPolynomial(pair[0], pair[1]); len(f) != 0 || code != impl.ErrRange {
			t.Errorf("ForkPolynomial(%d, %d) = %v, %d", pair[0], pair[1], f, code)
		}
	}
}

// TestChainsOfChains: the value of a chain at that of another one is that of the chain of the product.
func TestChainsOfChains(t *testing.T) {
	for m := int64(1); m <= impl.MaxPower; m++ {
		for n := int64(1); m*n <= impl.MaxPower; n++ {
			f, code := impl.ComposePolynomials(mustChain(t, m), mustChain(t, n))
			if !slices.Equal(f, mustChain(t, m*n)) || code != impl.ErrNone {
				t.Errorf("the chain of %d at that of %d is %v, %d", m, n, f, code)
			}
		}
	}
}

// shabatForBoth are Shabat polynomials for 0 and 1 of a degree of at most so much: stars, chains led
// from 1 and -1, forks, and others, with each also 1 less it, and each at 3 x + 5.
func shabatForBoth(t *testing.T, most int64) [][]int64 {
	t.Helper()
	half := inverseByHand(2)
	list := [][]int64{
		scaledByHand(poly(0, 0, 0, 40, 5, 1), inverseByHand(1728)),
		scaledByHand(poly(0, 0, 0, 20, 15, 3), inverseByHand(field(-16))),
		poly(3, 7),
	}
	for m := int64(1); m <= most; m++ {
		list = append(list, mustStar(t, m), scaledByHand(plusByHand(mustChain(t, m), []int64{1}), half))
		for n := int64(1); m+n <= most; n++ {
			list = append(list, mustFork(t, m, n))
		}
	}
	for _, f := range list {
		other := plusByHand([]int64{1}, scaledByHand(f, -1))
		list = append(list, other, afterByHand(f, []int64{5, 3}), afterByHand(other, []int64{5, 3}))
	}
	return slices.DeleteFunc(list, func(f []int64) bool { return int64(len(f)) > most+1 })
}

// TestCompositionsOfShabatPolynomials: if the values at 0 and 1 are 0 or 1, a composition is a Shabat
// polynomial again, with a passport that is told by the parts.
func TestCompositionsOfShabatPolynomials(t *testing.T) {
	done := 0
	for _, g := range shabatForBoth(t, 8) {
		inner, code := impl.PassportOfShabat(g, 0, 1)
		if code != impl.ErrNone {
			t.Fatalf("PassportOfShabat(%v, 0, 1): code %d", g, code)
		}
		for _, f := range shabatForBoth(t, 8) {
			if valueOfPoly(f, 0) > 1 || valueOfPoly(f, 1) > 1 {
				continue
			}
			h, code := impl.ComposePolynomials(f, g)
			if code != impl.ErrNone {
				continue
			}
			want := [][]int64{composedTypes(f, inner, 0), composedTypes(f, inner, 1), {int64(len(h) - 1)}}
			checkPassport(t, h, 0, 1, want)
			done++
		}
	}
	if done < 500 {
		t.Errorf("only %d compositions", done)
	}
}

// composedTypes are the multiplicities of v for a composition: where f has v at 0 or 1, the ones of
// the inner polynomial there are multiplied; elsewhere its values are not critical.
func composedTypes(f []int64, inner [][]int64, v int64) []int64 {
	roots := multiplicitiesByHand(f, v)
	var list []int64
	for x := range int64(2) {
		if valueOfPoly(f, x) != v {
			continue
		}
		power := powerOfRoot(plusByHand(f, poly(-v)), x)
		at := slices.Index(roots, power)
		roots = slices.Delete(roots, at, at+1)
		for _, k := range inner[x] {
			list = append(list, k*power)
		}
	}
	for _, power := range roots {
		list = append(list, slices.Repeat([]int64{power}, int(inner[2][0]))...)
	}
	slices.SortFunc(list, descending)
	return list
}

// powerOfRoot takes derivatives until x is no root any more.
func powerOfRoot(f []int64, x int64) int64 {
	power := int64(0)
	for valueOfPoly(f, x) == 0 {
		f = slopeByHand(f)
		power++
	}
	return power
}

// TestFamiliesAreTrees: stars and chains have the passports of the dessins of these names, and forks
// those of two black vertices with a white one in between.
func TestFamiliesAreTrees(t *testing.T) {
	for m := int64(1); m <= impl.MaxPower; m++ {
		star, _ := impl.StarDessin(m)
		passport, _ := impl.PassportOf(star)
		checkPassport(t, mustStar(t, m), 0, 1, passport)
		chain, _ := impl.ChainDessin(m)
		passport, _ = impl.PassportOf(chain)
		checkPassport(t, mustChain(t, m), 1, prime-1, passport)
		for n := int64(1); m+n <= impl.MaxPower; n++ {
			d := impl.Dessin{Darts: m + n, Black: staying(m + n), White: staying(m + n)}
			for x := range m + n {
				d.Black[x] = byte(x + 1)
			}
			d.Black[m-1], d.Black[m+n-1] = 0, byte(m)
			d.White[0], d.White[m] = byte(m), 0
			passport, _ = impl.PassportOf(d)
			checkPassport(t, mustFork(t, m, n), 0, 1, passport)
		}
	}
}

// checkTreePassport wants the passport of a Shabat polynomial to be one of trees, and of trees alone.
func checkTreePassport(t *testing.T, f []int64, passport [][]int64) {
	t.Helper()
	euler, code := impl.EulerOfPassport(passport)
	if euler != 2 || code != impl.ErrNone || len(passport[2]) != 1 || !impl.IsPassport(passport) {
		t.Fatalf("%v has the passport %v with the Euler number %d, %d", f, passport, euler, code)
	}
	count, code := impl.CountRooted(passport[0], passport[1])
	if count < 1 || code != impl.ErrNone {
		t.Fatalf("%v has the passport %v, but CountRooted = %d, %d", f, passport, count, code)
	}
	if len(f) > 7 {
		return
	}
	dessins, code := impl.DessinsOf(passport)
	words, _ := impl.TreesOfTypes(passport[0], passport[1])
	if len(dessins) == 0 || len(dessins) != len(words) || code != impl.ErrNone {
		t.Errorf("%v has the passport %v of %d dessins and %d trees", f, passport, len(dessins), len(words))
	}
}

// shabatOfTwins are the Shabat polynomials x^a (x^2 + 2 x + s)^b for 0 and another value, with this
// value at the same place: the derivative has two more roots, and f has the same value at both if
// the remainder by the polynomial of these is a number. (For an s of 0 or 1 two roots are the same.)
func shabatOfTwins(a, b int64) (list [][]int64, values []int64) {
	for s := int64(2); s < prime; s++ {
		twins := []int64{s, 2, 1}
		f := append(make([]int64, a), powerOfPoly(twins, b)...)
		slope := plusByHand(scaledByHand(twins, a), poly(0, 2*b, 2*b))
		if rest := remainderByHand(f, slope); len(rest) == 1 {
			list, values = append(list, f), append(values, rest[0])
		}
	}
	return list, values
}

// TestPassportsOfShabatPolynomialsAreThoseOfTrees takes many Shabat polynomials, and finds one for
// each passport of trees of at most 5 edges.
func TestPassportsOfShabatPolynomialsAreThoseOfTrees(t *testing.T) {
	found := map[string]bool{}
	tell := func(f []int64, a, b int64) {
		passport, code := impl.PassportOfShabat(f, a, b)
		if code != impl.ErrNone {
			t.Fatalf("PassportOfShabat(%v, %d, %d): code %d", f, a, b, code)
		}
		checkTreePassport(t, f, passport)
		found[passportKey(passport)] = true
		other, _ := impl.PassportOfShabat(f, b, a)
		checkTreePassport(t, f, other)
		found[passportKey(other)] = true
	}
	for _, f := range shabatForBoth(t, impl.MaxPower) {
		tell(f, 0, 1)
	}
	for a := int64(1); a <= 5; a++ {
		for b := int64(1); b <= 2; b++ {
			list, values := shabatOfTwins(a, b)
			for i, f := range list {
				tell(f, 0, values[i])
			}
		}
	}
	for n := int64(1); n <= 5; n++ {
		for _, types := range typesOfTrees(n) {
			if passport := [][]int64{types[0], types[1], {n}}; !found[passportKey(passport)] {
				t.Errorf("no Shabat polynomial has the passport %v", passport)
			}
		}
	}
}
