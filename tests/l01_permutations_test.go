package tests

import (
	"math"
	"slices"
	"testing"

	"loop.example/g01200/impl"
)

// notPermutations: arrays that are no permutations of so many numbers.
func notPermutations() map[string]struct {
	p impl.Places
	n int64
} {
	type pair = struct {
		p impl.Places
		n int64
	}
	twice16 := staying(16)
	twice16[15] = 14
	over16 := staying(16)
	over16[15] = 16
	return map[string]pair{
		"n of 0":                    {impl.Places{}, 0},
		"n of -1":                   {impl.Places{}, -1},
		"n of -16":                  {staying(16), -16},
		"n of 17":                   {staying(16), 17},
		"n of 257":                  {staying(1), 257},
		"n of 2^32 + 1":             {staying(1), 1<<32 + 1},
		"the least n":               {impl.Places{}, math.MinInt64},
		"the greatest n":            {staying(16), math.MaxInt64},
		"a number twice":            {impl.Places{0, 0}, 2},
		"the last number twice":     {impl.Places{0, 2, 2}, 3},
		"a number of n":             {impl.Places{0, 2}, 2},
		"a number of n alone":       {impl.Places{1}, 1},
		"a number of 255":           {impl.Places{255, 0}, 2},
		"16 numbers with one twice": {twice16, 16},
		"16 numbers with 16":        {over16, 16},
		"fewer numbers than n":      {impl.Places{1, 2, 0}, 4},
		"n less than the numbers":   {impl.Places{1, 0, 2}, 2},
		"n - 1 for n numbers":       {impl.Places{1, 2, 0}, 2},
		"not 0 next behind":         {impl.Places{1, 0, 1}, 2},
		"not 0 at the end":          {impl.Places{1, 0, 15: 1}, 2},
		"not 0 at the end of 15":    {impl.Places{0, 1, 2, 3, 4, 5, 6, 7, 8, 9, 10, 11, 12, 13, 14, 3}, 15},
		"a high byte behind n":      {impl.Places{0, 5: 128}, 1},
	}
}

// cyclesByHand takes the orbit of each number that is the least one of its orbit.
func cyclesByHand(p impl.Places, n int64) [][]int64 {
	var cycles [][]int64
	for first := range n {
		orbit := []int64{first}
		for x := int64(p[first]); x != first; x = int64(p[x]) {
			orbit = append(orbit, x)
		}
		if slices.Min(orbit) == first {
			cycles = append(cycles, orbit)
		}
	}
	return cycles
}

func typeByHand(p impl.Places, n int64) []int64 {
	var lengths []int64
	for _, cycle := range cyclesByHand(p, n) {
		lengths = append(lengths, int64(len(cycle)))
	}
	slices.SortFunc(lengths, func(x, y int64) int { return int(y - x) })
	return lengths
}

func TestErrorCodesAndLimit(t *testing.T) {
	codes := []int64{impl.ErrNone, impl.ErrInvalid, impl.ErrRange, impl.ErrLimit, impl.ErrNotFound, impl.ErrState, impl.ErrSyntax}
	if !slices.Equal(codes, []int64{0, 1, 2, 3, 4, 5, 6}) {
		t.Errorf("error codes %v", codes)
	}
	if impl.MaxDarts != 16 {
		t.Errorf("MaxDarts = %d", impl.MaxDarts)
	}
}

func TestIsPermutation(t *testing.T) {
	for n := int64(1); n <= 16; n++ {
		for _, p := range samplePlaces(n) {
			if !impl.IsPermutation(p, n) {
				t.Errorf("IsPermutation(%v, %d) is false", p, n)
			}
			if impl.IsPermutation(p, n-1) {
				t.Errorf("IsPermutation(%v, %d) is true", p, n-1)
			}
			if impl.IsPermutation(p, n+1) {
				t.Errorf("IsPermutation(%v, %d) is true", p, n+1)
			}
		}
	}
	for name, c := range notPermutations() {
		if impl.IsPermutation(c.p, c.n) {
			t.Errorf("%s: IsPermutation(%v, %d) is true", name, c.p, c.n)
		}
	}
}

func TestIsPermutationAgainstAllSmallArrays(t *testing.T) {
	for n := int64(1); n <= 3; n++ {
		valid := map[impl.Places]bool{}
		for _, p := range allPlaces(n) {
			valid[p] = true
		}
		for i := range 4 * 4 * 4 * 4 {
			p := impl.Places{byte(i % 4), byte(i / 4 % 4), byte(i / 16 % 4), byte(i / 64)}
			if impl.IsPermutation(p, n) != valid[p] {
				t.Errorf("IsPermutation(%v, %d) is %v", p, n, !valid[p])
			}
		}
	}
}

func TestThenPlaces(t *testing.T) {
	for n := int64(1); n <= 16; n++ {
		sample := samplePlaces(n)
		for i, p := range sample {
			q := sample[(i*7+3)%len(sample)]
			r, code := impl.ThenPlaces(p, q, n)
			if code != impl.ErrNone || !impl.IsPermutation(r, n) {
				t.Fatalf("ThenPlaces(%v, %v, %d) = %v, %d", p, q, n, r, code)
			}
			for x := range n {
				if r[x] != q[p[x]] {
					t.Errorf("ThenPlaces(%v, %v, %d) leads %d to %d", p, q, n, x, r[x])
				}
			}
		}
	}
	good := impl.Places{1, 0, 2}
	if r, code := impl.ThenPlaces(good, impl.Places{1, 2, 0}, 3); r != (impl.Places{2, 1, 0}) || code != impl.ErrNone {
		t.Errorf("ThenPlaces = %v, %d", r, code)
	}
}

func TestThenPlacesRefuses(t *testing.T) {
	for name, c := range notPermutations() {
		good := impl.Places{}
		if c.n >= 1 && c.n <= 16 {
			good = staying(c.n)
		}
		for _, pair := range [][2]impl.Places{{c.p, good}, {good, c.p}, {c.p, c.p}} {
			if r, code := impl.ThenPlaces(pair[0], pair[1], c.n); r != (impl.Places{}) || code != impl.ErrInvalid {
				t.Errorf("%s: ThenPlaces(%v, %v, %d) = %v, %d", name, pair[0], pair[1], c.n, r, code)
			}
		}
	}
}

func TestBackPlaces(t *testing.T) {
	for n := int64(1); n <= 16; n++ {
		for _, p := range samplePlaces(n) {
			r, code := impl.BackPlaces(p, n)
			if code != impl.ErrNone || !impl.IsPermutation(r, n) {
				t.Fatalf("BackPlaces(%v, %d) = %v, %d", p, n, r, code)
			}
			for x := range n {
				if int64(r[p[x]]) != x {
					t.Errorf("BackPlaces(%v, %d) = %v", p, n, r)
				}
			}
		}
	}
	for name, c := range notPermutations() {
		if r, code := impl.BackPlaces(c.p, c.n); r != (impl.Places{}) || code != impl.ErrInvalid {
			t.Errorf("%s: BackPlaces(%v, %d) = %v, %d", name, c.p, c.n, r, code)
		}
	}
}

func TestCyclesOf(t *testing.T) {
	for n := int64(1); n <= 16; n++ {
		for _, p := range samplePlaces(n) {
			if x, code := impl.CyclesOf(p, n); !sameLists(x, cyclesByHand(p, n)) || code != impl.ErrNone {
				t.Errorf("CyclesOf(%v, %d) = %v, %d", p, n, x, code)
			}
		}
	}
	if x, _ := impl.CyclesOf(impl.Places{3, 1, 5, 0, 2, 4}, 6); !sameLists(x, [][]int64{{0, 3}, {1}, {2, 5, 4}}) {
		t.Errorf("CyclesOf = %v", x)
	}
	if x, _ := impl.CyclesOf(impl.Places{}, 1); !sameLists(x, [][]int64{{0}}) {
		t.Errorf("CyclesOf = %v", x)
	}
	for name, c := range notPermutations() {
		if x, code := impl.CyclesOf(c.p, c.n); len(x) != 0 || code != impl.ErrInvalid {
			t.Errorf("%s: CyclesOf(%v, %d) = %v, %d", name, c.p, c.n, x, code)
		}
	}
	checkOwnMemory(t, "CyclesOf", func() [][]int64 {
		x, _ := impl.CyclesOf(impl.Places{3, 1, 5, 0, 2, 4}, 6)
		return x
	})
}

func TestTypeOf(t *testing.T) {
	for n := int64(1); n <= 16; n++ {
		for _, p := range samplePlaces(n) {
			if x, code := impl.TypeOf(p, n); !slices.Equal(x, typeByHand(p, n)) || code != impl.ErrNone {
				t.Errorf("TypeOf(%v, %d) = %v, %d", p, n, x, code)
			}
		}
	}
	if x, _ := impl.TypeOf(impl.Places{0, 2, 1, 4, 5, 3}, 6); !slices.Equal(x, []int64{3, 2, 1}) {
		t.Errorf("TypeOf = %v", x)
	}
	for name, c := range notPermutations() {
		if x, code := impl.TypeOf(c.p, c.n); len(x) != 0 || code != impl.ErrInvalid {
			t.Errorf("%s: TypeOf(%v, %d) = %v, %d", name, c.p, c.n, x, code)
		}
	}
	checkOwnMemory(t, "TypeOf", func() [][]int64 {
		x, _ := impl.TypeOf(impl.Places{0, 2, 1}, 3)
		return [][]int64{x}
	})
}

func TestSignOf(t *testing.T) {
	for n := int64(1); n <= 16; n++ {
		for _, p := range samplePlaces(n) {
			want := int64(1)
			for x := range n {
				for y := range x {
					if p[y] > p[x] {
						want = -want
					}
				}
			}
			if sign, code := impl.SignOf(p, n); sign != want || code != impl.ErrNone {
				t.Errorf("SignOf(%v, %d) = %d, %d", p, n, sign, code)
			}
		}
	}
	for name, c := range notPermutations() {
		if sign, code := impl.SignOf(c.p, c.n); sign != 0 || code != impl.ErrInvalid {
			t.Errorf("%s: SignOf(%v, %d) = %d, %d", name, c.p, c.n, sign, code)
		}
	}
}

// commonMultiple returns the least common multiple of some numbers.
func commonMultiple(numbers []int64) int64 {
	multiple := int64(1)
	for _, x := range numbers {
		sum := multiple
		for sum%x != 0 {
			sum += multiple
		}
		multiple = sum
	}
	return multiple
}

func TestOrderOf(t *testing.T) {
	for n := int64(1); n <= 16; n++ {
		for _, p := range samplePlaces(n) {
			if order, code := impl.OrderOf(p, n); order != commonMultiple(typeByHand(p, n)) || code != impl.ErrNone {
				t.Errorf("OrderOf(%v, %d) = %d, %d", p, n, order, code)
			}
		}
	}
	greatest, _ := impl.PlacesOfCycles([][]int64{{0, 1, 2, 3}, {4, 5, 6, 7, 8}, {9, 10, 11, 12, 13, 14, 15}}, 16)
	if order, code := impl.OrderOf(greatest, 16); order != 140 || code != impl.ErrNone {
		t.Errorf("OrderOf = %d, %d", order, code)
	}
	for name, c := range notPermutations() {
		if order, code := impl.OrderOf(c.p, c.n); order != 0 || code != impl.ErrInvalid {
			t.Errorf("%s: OrderOf(%v, %d) = %d, %d", name, c.p, c.n, order, code)
		}
	}
}

func TestPermutationsComeBackFromTheirCycles(t *testing.T) {
	for n := int64(1); n <= 16; n++ {
		for _, p := range samplePlaces(n) {
			cycles, _ := impl.CyclesOf(p, n)
			if r, code := impl.PlacesOfCycles(cycles, n); r != p || code != impl.ErrNone {
				t.Errorf("PlacesOfCycles(%v, %d) = %v, %d", cycles, n, r, code)
			}
			slices.Reverse(cycles)
			for i, cycle := range cycles {
				turn := i % len(cycle)
				cycles[i] = append(slices.Clone(cycle[turn:]), cycle[:turn]...)
			}
			if r, code := impl.PlacesOfCycles(cycles, n); r != p || code != impl.ErrNone {
				t.Errorf("PlacesOfCycles(%v, %d) = %v, %d", cycles, n, r, code)
			}
		}
	}
}

func TestPlacesOfCycles(t *testing.T) {
	type lists = [][]int64
	cases := []struct {
		cycles lists
		n      int64
		want   impl.Places
	}{
		{nil, 1, impl.Places{}},
		{lists{}, 4, impl.Places{0, 1, 2, 3}},
		{nil, 16, staying(16)},
		{lists{{0}}, 1, impl.Places{}},
		{lists{{2}, {0}}, 3, impl.Places{0, 1, 2}},
		{lists{{0, 1, 2}}, 3, impl.Places{1, 2, 0}},
		{lists{{1, 2, 0}}, 3, impl.Places{1, 2, 0}},
		{lists{{2, 0, 1}}, 3, impl.Places{1, 2, 0}},
		{lists{{0, 2, 1}}, 3, impl.Places{2, 0, 1}},
		{lists{{2, 1, 0}}, 3, impl.Places{2, 0, 1}},
		{lists{{4, 3}, {2}, {1, 0}}, 6, impl.Places{1, 0, 2, 4, 3, 5}},
		{lists{{15, 0}}, 16, impl.Places{15, 1, 2, 3, 4, 5, 6, 7, 8, 9, 10, 11, 12, 13, 14, 0}},
	}
	for _, c := range cases {
		if r, code := impl.PlacesOfCycles(c.cycles, c.n); r != c.want || code != impl.ErrNone {
			t.Errorf("PlacesOfCycles(%v, %d) = %v, %d", c.cycles, c.n, r, code)
		}
	}
}

func TestPlacesOfCyclesRefuses(t *testing.T) {
	type lists = [][]int64
	cases := []struct {
		cycles lists
		n      int64
	}{
		{nil, 0}, {nil, -1}, {nil, 17}, {nil, 257}, {nil, 1<<32 + 3}, {nil, math.MinInt64}, {nil, math.MaxInt64},
		{lists{{0, 1}}, 0}, {lists{{0, 1}}, -2}, {lists{{0, 1}}, 17}, {lists{{0, 16}}, 17},
		{lists{{}}, 3}, {lists{nil}, 3}, {lists{{0, 1}, {}}, 3}, {lists{{}, {0, 1}}, 3}, {lists{{0}, {1}, {2}, {}}, 3},
		{lists{{3}}, 3}, {lists{{0, 3}}, 3}, {lists{{3, 0}}, 3}, {lists{{16}}, 16}, {lists{{1}}, 1},
		{lists{{-1}}, 3}, {lists{{0, -1}}, 3}, {lists{{0, 1, -1}}, 3}, {lists{{0, 256}}, 3}, {lists{{0, 257}}, 3},
		{lists{{0, 1 << 32}}, 3}, {lists{{0, math.MaxInt64}}, 3}, {lists{{0, math.MinInt64}}, 3}, {lists{{0, -255}}, 3},
		{lists{{0, 0}}, 3}, {lists{{0, 1, 0}}, 3}, {lists{{0, 1, 1}}, 3}, {lists{{0, 1, 2, 0, 1, 2}}, 3},
		{lists{{0, 1}, {1}}, 3}, {lists{{0, 1}, {1, 2}}, 3}, {lists{{0}, {0}}, 3}, {lists{{2}, {0, 1, 2}}, 3},
		{lists{{0, 1}, {0, 1}}, 2},
	}
	for _, c := range cases {
		if r, code := impl.PlacesOfCycles(c.cycles, c.n); r != (impl.Places{}) || code != impl.ErrRange {
			t.Errorf("PlacesOfCycles(%v, %d) = %v, %d", c.cycles, c.n, r, code)
		}
	}
}

func TestPlacesOfCyclesKeepsItsArgument(t *testing.T) {
	numbers := []int64{4, 2, 3, 1, 0, 77, 78}
	cycles := [][]int64{numbers[:2], numbers[2:5], {99}}[:2]
	impl.PlacesOfCycles(cycles, 5)
	if !slices.Equal(numbers, []int64{4, 2, 3, 1, 0, 77, 78}) || !sameLists(cycles[:3], [][]int64{{4, 2}, {3, 1, 0}, {99}}) {
		t.Errorf("PlacesOfCycles changes its argument: %v, %v", numbers, cycles[:3])
	}
}
