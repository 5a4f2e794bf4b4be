package tests

import (
	"math"
	"slices"
	"testing"

	"loop.example/g01200/impl"
)

func TestLimitsOfPassports(t *testing.T) {
	if impl.MaxList != 3000 || impl.MaxSearch != 8 {
		t.Errorf("MaxList = %d, MaxSearch = %d", impl.MaxList, impl.MaxSearch)
	}
}

func TestIsType(t *testing.T) {
	for n := int64(1); n <= 16; n++ {
		for _, list := range descendingLists(n) {
			if !impl.IsType(list) {
				t.Errorf("IsType(%v) is false", list)
			}
		}
	}
	for name, list := range notTypes() {
		if impl.IsType(list) {
			t.Errorf("%s: IsType(%v) is true", name, list)
		}
	}
}

// TestIsTypeAgainstAllShortLists takes all lists of at most 4 numbers in -1..7.
func TestIsTypeAgainstAllShortLists(t *testing.T) {
	lists := [][]int64{{}}
	for i := 0; i < len(lists) && len(lists[i]) < 4; i++ {
		for x := int64(-1); x <= 7; x++ {
			lists = append(lists, append(slices.Clone(lists[i]), x))
		}
	}
	for _, list := range lists {
		sum, valid := int64(0), true
		for i, x := range list {
			sum += x
			valid = valid && x >= 1 && (i == 0 || list[i-1] >= x)
		}
		if found := impl.IsType(list); found != (valid && sum >= 1 && sum <= 16) {
			t.Errorf("IsType(%v) is %v", list, found)
		}
	}
}

func TestTypesOf(t *testing.T) {
	counts := []int{0, 1, 2, 3, 5, 7, 11, 15, 22, 30, 42, 56, 77, 101, 135, 176, 231}
	for n := int64(1); n <= 16; n++ {
		types, code := impl.TypesOf(n)
		if len(types) != counts[n] || !sameLists(types, descendingLists(n)) || code != impl.ErrNone {
			t.Errorf("TypesOf(%d) = %v, %d", n, types, code)
		}
	}
	known := map[int64][][]int64{
		1: {{1}},
		2: {{1, 1}, {2}},
		3: {{1, 1, 1}, {2, 1}, {3}},
		4: {{1, 1, 1, 1}, {2, 1, 1}, {2, 2}, {3, 1}, {4}},
		5: {{1, 1, 1, 1, 1}, {2, 1, 1, 1}, {2, 2, 1}, {3, 1, 1}, {3, 2}, {4, 1}, {5}},
	}
	for n, want := range known {
		if types, code := impl.TypesOf(n); !sameLists(types, want) || code != impl.ErrNone {
			t.Errorf("TypesOf(%d) = %v, %d", n, types, code)
		}
	}
	for _, n := range []int64{0, -1, 17, 256 + 3, 1<<32 + 3, math.MinInt64, math.MaxInt64} {
		if types, code := impl.TypesOf(n); len(types) != 0 || code != impl.ErrRange {
			t.Errorf("TypesOf(%d) = %v, %d", n, types, code)
		}
	}
	checkOwnMemory(t, "TypesOf", func() [][]int64 {
		types, _ := impl.TypesOf(6)
		return types
	})
}

// TestTypesOfPermutations: the types of n are those of all permutations of n numbers.
func TestTypesOfPermutations(t *testing.T) {
	for n := int64(1); n <= 7; n++ {
		var want [][]int64
		for _, p := range allPlaces(n) {
			list, _ := impl.TypeOf(p, n)
			want = append(want, list)
		}
		slices.SortFunc(want, slices.Compare)
		want = slices.CompactFunc(want, slices.Equal)
		if types, code := impl.TypesOf(n); !sameLists(types, want) || code != impl.ErrNone {
			t.Errorf("TypesOf(%d) = %v, %d", n, types, code)
		}
	}
}

func TestIsPassport(t *testing.T) {
	for n := int64(1); n <= 16; n++ {
		for _, passport := range samplePassports(n, 200) {
			if !impl.IsPassport(passport) {
				t.Errorf("IsPassport(%v) is false", passport)
			}
			if other := [][]int64{passport[0], passport[1], append([]int64{16}, passport[2]...)}; impl.IsPassport(other) {
				t.Errorf("IsPassport(%v) is true", other)
			}
		}
	}
	same := []int64{2, 1}
	for _, passport := range append(largePassports(), [][]int64{{1}, {1}, {1}}, [][]int64{{2}, {1, 1}, {2}}, [][]int64{same, same, same}) {
		if !impl.IsPassport(passport) {
			t.Errorf("IsPassport(%v) is false", passport)
		}
	}
	for name, passport := range notPassports() {
		if impl.IsPassport(passport) {
			t.Errorf("%s: IsPassport(%v) is true", name, passport)
		}
	}
	for _, d := range sampleDessins() {
		if passport, _ := impl.PassportOf(d); !impl.IsPassport(passport) {
			t.Errorf("IsPassport(%v) is false, and it is that of %v", passport, d)
		}
	}
}

func TestEulerOfPassport(t *testing.T) {
	cases := []struct {
		passport [][]int64
		want     int64
	}{
		{[][]int64{{1}, {1}, {1}}, 2},
		{[][]int64{{2}, {2}, {2}}, 1},
		{[][]int64{{2}, {1, 1}, {2}}, 2},
		{[][]int64{{2}, {1, 1}, {1, 1}}, 3},
		{[][]int64{{1, 1}, {1, 1}, {1, 1}}, 4},
		{[][]int64{{3}, {3}, {3}}, 0},
		{[][]int64{{3}, {1, 1, 1}, {3}}, 2},
		{[][]int64{{3}, {2, 1}, {3}}, 1},
		{[][]int64{{5}, {5}, {5}}, -2},
		{[][]int64{{4}, {4}, {4}}, -1},
		{[][]int64{{16}, {16}, {16}}, -13},
		{[][]int64{ones(16), ones(16), ones(16)}, 32},
		{[][]int64{ones(16), {16}, {8, 8}}, 3},
		{[][]int64{{9, 7}, {4, 4, 4, 4}, {5, 4, 3, 2, 1, 1}}, -4},
	}
	for _, c := range cases {
		if euler, code := impl.EulerOfPassport(c.passport); euler != c.want || code != impl.ErrNone {
			t.Errorf("EulerOfPassport(%v) = %d, %d", c.passport, euler, code)
		}
	}
	for name, passport := range notPassports() {
		if euler, code := impl.EulerOfPassport(passport); euler != 0 || code != impl.ErrInvalid {
			t.Errorf("%s: EulerOfPassport(%v) = %d, %d", name, passport, euler, code)
		}
	}
}

// TestDessinsHaveTheEulerNumberOfTheirPassport: it is even, at most 2, and tells the genus.
func TestDessinsHaveTheEulerNumberOfTheirPassport(t *testing.T) {
	for _, d := range sampleDessins() {
		passport, _ := impl.PassportOf(d)
		want, _ := impl.EulerOf(d)
		genus, _ := impl.GenusOf(d)
		if euler, code := impl.EulerOfPassport(passport); euler != want || euler != 2-2*genus || code != impl.ErrNone {
			t.Fatalf("EulerOfPassport(%v) = %d, %d, and that of %v is %d", passport, euler, code, d, want)
		}
	}
}

func TestCentraliserOf(t *testing.T) {
	for n := int64(1); n <= 5; n++ {
		all := allPlaces(n)
		for _, p := range all {
			commuting := int64(0)
			for _, q := range all {
				if thenByHand(p, q, n) == thenByHand(q, p, n) {
					commuting++
				}
			}
			if found, code := impl.CentraliserOf(typeByHand(p, n)); found != commuting || code != impl.ErrNone {
				t.Fatalf("CentraliserOf(%v) = %d, %d, not %d", typeByHand(p, n), found, code, commuting)
			}
		}
	}
	cases := []struct {
		list []int64
		want int64
	}{
		{[]int64{1}, 1}, {[]int64{2, 2, 1}, 8}, {[]int64{2, 1, 1}, 4}, {[]int64{3, 3, 2, 2, 2}, 864}, {[]int64{16}, 16},
		{[]int64{8, 8}, 128}, {[]int64{4, 4, 4, 4}, 6144}, {slices.Repeat([]int64{2}, 8), 10321920}, {ones(16), 20922789888000},
		{[]int64{5, 4, 3, 2, 1, 1}, 240}, {[]int64{4, 4, 3, 3, 1, 1}, 1152}, {[]int64{9, 7}, 63},
	}
	for _, c := range cases {
		if found, code := impl.CentraliserOf(c.list); found != c.want || code != impl.ErrNone {
			t.Errorf("CentraliserOf(%v) = %d, %d", c.list, found, code)
		}
	}
	for name, list := range notTypes() {
		if found, code := impl.CentraliserOf(list); found != 0 || code != impl.ErrInvalid {
			t.Errorf("%s: CentraliserOf(%v) = %d, %d", name, list, found, code)
		}
	}
}

// TestPermutationsOfAllTypes: n! divided by the numbers that commute is how many have each type, and
// together they are all.
func TestPermutationsOfAllTypes(t *testing.T) {
	for n := int64(1); n <= 16; n++ {
		sum := int64(0)
		for _, list := range descendingLists(n) {
			commuting, code := impl.CentraliserOf(list)
			if commuting < 1 || factorialByHand(n)%commuting != 0 || code != impl.ErrNone {
				t.Fatalf("CentraliserOf(%v) = %d, %d", list, commuting, code)
			}
			sum += factorialByHand(n) / commuting
		}
		if sum != factorialByHand(n) {
			t.Errorf("there are %d permutations of %d numbers by their types", sum, n)
		}
	}
}

func TestCountSubgroups(t *testing.T) {
	known := []int64{1, 3, 13, 71, 461, 3447, 29093, 273343, 2829325, 31998903, 392743957, 5201061455, 73943424413, 1123596277863}
	for i, want := range known {
		if count, code := impl.CountSubgroups(int64(i) + 1); count != want || code != impl.ErrNone {
			t.Errorf("CountSubgroups(%d) = %d, %d", i+1, count, code)
		}
	}
	for _, n := range []int64{0, -1, 15, 16, 256 + 3, 1<<32 + 3, math.MinInt64, math.MaxInt64} {
		if count, code := impl.CountSubgroups(n); count != 0 || code != impl.ErrRange {
			t.Errorf("CountSubgroups(%d) = %d, %d", n, count, code)
		}
	}
}

// TestSubgroupsAreRootedDessins: each dessin has as many roots as darts, of which those that an
// automorphism leads to each other are the same.
func TestSubgroupsAreRootedDessins(t *testing.T) {
	for n := int64(1); n <= 5; n++ {
		all, _ := impl.AllDessins(n)
		roots := int64(0)
		for _, d := range all {
			roots += n / int64(len(isomorphismsByHand(d, d)))
		}
		if count, code := impl.CountSubgroups(n); count != roots || code != impl.ErrNone {
			t.Errorf("CountSubgroups(%d) = %d, %d, and there are %d rooted dessins", n, count, code, roots)
		}
	}
	for n := int64(1); n <= 7; n++ {
		pairs := int64(0)
		for _, passport := range passportsByHand(n) {
			count, _ := impl.CountConnected(passport)
			pairs += count
		}
		if count, code := impl.CountSubgroups(n); count != pairs/factorialByHand(n-1) || code != impl.ErrNone {
			t.Errorf("CountSubgroups(%d) = %d, %d, and there are %d connected pairs", n, count, code, pairs)
		}
	}
}
