package tests

import (
	"testing"

	"loop.example/g01200/impl"
)

// checkCounts holds the numbers of pairs of passports against what was counted by hand.
func checkCounts(t *testing.T, passports [][][]int64, tallies map[string]tally) {
	t.Helper()
	for _, passport := range passports {
		want := tallies[passportKey(passport)]
		given := withSpareNumbers(passport)
		if pairs, code := impl.CountPairs(given); pairs != want.pairs || code != impl.ErrNone {
			t.Fatalf("CountPairs(%v) = %d, %d, not %d", passport, pairs, code, want.pairs)
		}
		checkKept(t, "CountPairs", given, passport)
		if connected, code := impl.CountConnected(given); connected != want.connected || code != impl.ErrNone {
			t.Fatalf("CountConnected(%v) = %d, %d, not %d", passport, connected, code, want.connected)
		}
		checkKept(t, "CountConnected", given, passport)
	}
}

func TestCountsOfAllPairs(t *testing.T) {
	for n := int64(1); n <= 5; n++ {
		tallies := talliesByHand(n, 120, false)
		checkCounts(t, passportsByHand(n), tallies)
		sum := int64(0)
		for _, c := range tallies {
			sum += c.pairs
		}
		if sum != factorialByHand(n)*factorialByHand(n) {
			t.Errorf("%d pairs of %d numbers are tested", sum, n)
		}
	}
}

// TestCountsOfGreatPassports takes all White permutations for one Black one of each type.
func TestCountsOfGreatPassports(t *testing.T) {
	checkCounts(t, passportsByHand(6), talliesByHand(6, 1, false))
	checkCounts(t, samplePassports(7, 400), talliesByHand(7, 1, false))
	checkCounts(t, samplePassports(8, 400), talliesByHand(8, 1, false))
}

func TestCountsOfKnownPassports(t *testing.T) {
	cases := []struct {
		passport  [][]int64
		pairs     int64
		connected int64
	}{
		{[][]int64{{1}, {1}, {1}}, 1, 1},
		{[][]int64{{1, 1}, {1, 1}, {1, 1}}, 1, 0},
		{[][]int64{{2}, {1, 1}, {2}}, 1, 1},
		{[][]int64{{1, 1}, {2}, {2}}, 1, 1},
		{[][]int64{{2}, {2}, {1, 1}}, 1, 1},
		{[][]int64{{2}, {2}, {2}}, 0, 0},
		{[][]int64{{3}, {1, 1, 1}, {3}}, 2, 2},
		{[][]int64{{3}, {3}, {3}}, 2, 2},
		{[][]int64{{2, 1}, {2, 1}, {3}}, 6, 6},
		{[][]int64{{2, 1}, {2, 1}, {1, 1, 1}}, 3, 0},
		{[][]int64{{2, 1}, {2, 1}, {2, 1}}, 0, 0},
		{[][]int64{{2, 2}, {2, 2}, {2, 2}}, 6, 6},
		{[][]int64{{2, 2}, {2, 2}, {1, 1, 1, 1}}, 3, 0},
		{[][]int64{{2, 1, 1}, {2, 1, 1}, {2, 2}}, 6, 0},
		{[][]int64{{3, 1}, {3, 1}, {3, 1}}, 32, 24},
		{[][]int64{{3, 1}, {2, 2}, {3, 1}}, 24, 24},
		{[][]int64{{5}, {5}, {5}}, 192, 192},
		{[][]int64{{8}, ones(8), {8}}, 5040, 5040},
		{[][]int64{ones(8), ones(8), ones(8)}, 1, 0},
		{[][]int64{{8}, {8}, {8}}, 0, 0},
		{[][]int64{{2, 2, 2, 2}, {2, 2, 2, 2}, {2, 2, 2, 2}}, 1260, 0},
		{[][]int64{{4, 4}, {4, 4}, {4, 4}}, 146160, 146160},
		{[][]int64{{7, 1}, {7, 1}, {7, 1}}, 9100800, 8064000},
		{[][]int64{{4, 2, 1}, {3, 2, 2}, {3, 3, 1}}, 15120, 15120},
	}
	for _, c := range cases {
		if pairs, code := impl.CountPairs(c.passport); pairs != c.pairs || code != impl.ErrNone {
			t.Errorf("CountPairs(%v) = %d, %d", c.passport, pairs, code)
		}
		if connected, code := impl.CountConnected(c.passport); connected != c.connected || code != impl.ErrNone {
			t.Errorf("CountConnected(%v) = %d, %d", c.passport, connected, code)
		}
	}
}

// TestPairsOfTwoTypes: each pair of a permutation of one type and one of another one has one
// Face permutation, and the three types may change their places.
func TestPairsOfTwoTypes(t *testing.T) {
	for n := int64(1); n <= 8; n++ {
		s := source(n)
		lists := descendingLists(n)
		for range 12 {
			a, b := lists[s.below(len(lists))], lists[s.below(len(lists))]
			sum := int64(0)
			for _, c := range lists {
				pairs, _ := impl.CountPairs([][]int64{a, b, c})
				sum += pairs
				for _, other := range [][][]int64{{b, a, c}, {b, c, a}, {c, b, a}} {
					if found, code := impl.CountPairs(other); found != pairs || code != impl.ErrNone {
						t.Fatalf("CountPairs(%v) = %d, %d, not %d", other, found, code, pairs)
					}
				}
			}
			first, _ := impl.CentraliserOf(a)
			second, _ := impl.CentraliserOf(b)
			if all := factorialByHand(n) / first * (factorialByHand(n) / second); sum != all {
				t.Errorf("there are %d pairs of %v and %v, and by their Face permutations %d", all, a, b, sum)
			}
		}
	}
}

func TestCountsRefuse(t *testing.T) {
	check := func(name string, passport [][]int64, want int64) {
		t.Helper()
		if pairs, code := impl.CountPairs(passport); pairs != 0 || code != want {
			t.Errorf("%s: CountPairs(%v) = %d, %d", name, passport, pairs, code)
		}
		if connected, code := impl.CountConnected(passport); connected != 0 || code != want {
			t.Errorf("%s: CountConnected(%v) = %d, %d", name, passport, connected, code)
		}
	}
	for name, passport := range notPassports() {
		check(name, passport, impl.ErrInvalid)
	}
	for _, passport := range largePassports() {
		check("more than 8", passport, impl.ErrRange)
		check("more than 8, and one more", append(passport[:3:3], passport[0]), impl.ErrInvalid)
	}
}

// TestPairsWithOneFace: of genus 0 they are as many as (n - 1)! times the numbers of rooted plane
// trees of two colours with these types, n (p - 1)! (q - 1)! divided by the factorials of the
// numbers of equal entries; with one face all pairs are connected.
func TestPairsWithOneFace(t *testing.T) {
	for n := int64(1); n <= 8; n++ {
		for _, black := range descendingLists(n) {
			for _, white := range descendingLists(n) {
				if int64(len(black)+len(white)) != n+1 {
					continue
				}
				passport := [][]int64{black, white, {n}}
				want := factorialByHand(n-1) * rootedTrees(black, white)
				connected, code := impl.CountConnected(passport)
				if connected != want || connected == 0 || code != impl.ErrNone {
					t.Errorf("CountConnected(%v) = %d, %d, not %d", passport, connected, code, want)
				}
				if pairs, code := impl.CountPairs(passport); pairs != want || code != impl.ErrNone {
					t.Errorf("CountPairs(%v) = %d, %d, not %d", passport, pairs, code, want)
				}
			}
		}
	}
}

// rootedTrees is the number of the rooted plane trees with types of n numbers, n + 1 together.
func rootedTrees(black, white []int64) int64 {
	n := int64(len(black) + len(white) - 1)
	count := n * factorialByHand(int64(len(black))-1) * factorialByHand(int64(len(white))-1)
	for x := range n + 1 {
		for _, list := range [][]int64{black, white} {
			equal := int64(0)
			for _, y := range list {
				if y == x {
					equal++
				}
			}
			count /= factorialByHand(equal)
		}
	}
	return count
}
