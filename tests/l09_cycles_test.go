package tests

import (
	"math"
	"slices"
	"testing"

	"loop.example/g01200/impl"
)

// chainDessins are the dessins of at most 3 darts, some of 4, and many of more darts.
func chainDessins(t *testing.T) []impl.Dessin {
	t.Helper()
	var all []impl.Dessin
	for i, d := range append(sampleDessins(), groupDessins(t)...) {
		if d.Darts != 4 || i%5 == 0 {
			all = append(all, d)
		}
	}
	return all
}

// TestBoundariesAreBoundingCycles is the first part of promise 9, and of the Guarantee.
func TestBoundariesAreBoundingCycles(t *testing.T) {
	s := source(90)
	for _, d := range chainDessins(t) {
		boundaries, code := impl.BoundariesOf(d)
		if !sameLists(boundaries, boundariesByHand(d)) || code != impl.ErrNone {
			t.Fatalf("BoundariesOf(%v) = %v, %d; want %v", d, boundaries, code, boundariesByHand(d))
		}
		if len(boundaries) != len(cyclesByHand(faceByHand(d), d.Darts)) {
			t.Errorf("BoundariesOf(%v) are %d", d, len(boundaries))
		}
		sum := make([]int64, d.Darts)
		for _, boundary := range boundaries {
			addTimes(sum, 1, boundary)
		}
		if slices.Min(sum) != 0 || slices.Max(sum) != 0 {
			t.Errorf("the boundaries of the faces of %v have the sum %v", d, sum)
		}
		cycles := cyclesOfEdges(d)
		for _, chain := range append(boundaries, sum, s.sumOfMultiples(d.Darts, boundaries)) {
			cycle, code := impl.IsCycle(d, chain)
			bounding, second := impl.IsBounding(d, chain)
			if !cycle || !bounding || code != impl.ErrNone || second != impl.ErrNone {
				t.Fatalf("%v, %v: IsCycle = %v, %d and IsBounding = %v, %d", d, chain, cycle, code, bounding, second)
			}
			for _, other := range cycles {
				if number, code := impl.IntersectionOf(d, chain, other); number != 0 || code != impl.ErrNone {
					t.Fatalf("%v: the intersection of %v and %v is %d, %d", d, chain, other, number, code)
				}
			}
		}
	}
}

func TestKnownBoundaries(t *testing.T) {
	cases := []struct {
		text string
		want [][]int64
	}{
		{"1|()|()", [][]int64{{0}}},
		{"2|(0 1)|()", [][]int64{{0, 0}}},
		{"2|(0 1)|(0 1)", [][]int64{{-1, 1}, {1, -1}}},
		{"3|(0 1 2)|(0 1 2)", [][]int64{{0, 0, 0}}},
		{"3|(0 1 2)|(0 2 1)", [][]int64{{-1, 1, 0}, {0, -1, 1}, {1, 0, -1}}},
		{"3|(0 2 1)|(0 1 2)", [][]int64{{-1, 0, 1}, {1, -1, 0}, {0, 1, -1}}},
		{"3|(0 1 2)|(0 1)", [][]int64{{-1, 1, 0}, {1, -1, 0}}},
		{"4|(0 1)(2 3)|(0 2)(1 3)", [][]int64{{-1, 1, 1, -1}, {1, -1, -1, 1}}},
		{"4|(0 1 2 3)|(0 1 2 3)", [][]int64{{-1, 1, -1, 1}, {1, -1, 1, -1}}},
		{"4|(1 2)|(0 1)(2 3)", [][]int64{{0, 0, 0, 0}}},
		{"5|(0 1 2 3 4)|(0 1 2 3)", [][]int64{{-1, 1, -1, 1, 0}, {1, -1, 1, -1, 0}}},
	}
	for _, c := range cases {
		if boundaries, code := impl.BoundariesOf(mustParse(t, c.text)); !sameLists(boundaries, c.want) || code != impl.ErrNone {
			t.Errorf("BoundariesOf(%s) = %v, %d; want %v", c.text, boundaries, code, c.want)
		}
	}
	band, _ := impl.BandDessin(5)
	checkOwnMemory(t, "BoundariesOf", func() [][]int64 {
		boundaries, _ := impl.BoundariesOf(band)
		return boundaries
	})
}

func checkIsCycle(t *testing.T, d impl.Dessin, chain []int64) bool {
	t.Helper()
	given := withSpare(chain)
	yes, code := impl.IsCycle(d, given)
	if yes != isCycleByHand(d, chain) || code != impl.ErrNone {
		t.Fatalf("IsCycle(%v, %v) = %v, %d", d, chain, yes, code)
	}
	checkSpareKept(t, "IsCycle", given, chain)
	return yes
}

// nearCycles are one entry, or two entries at vertices of one colour, away from a cycle.
func (s *source) nearCycles(d impl.Dessin, cycle []int64) [][]int64 {
	x, near := int64(s.below(int(d.Darts))), slices.Clone(cycle)
	near[x]++
	byBlack, byWhite := slices.Clone(cycle), slices.Clone(cycle)
	byBlack[x]--
	byBlack[d.Black[x]]++
	byWhite[x]--
	byWhite[d.White[x]]++
	return [][]int64{near, byBlack, byWhite}
}

func TestIsCycle(t *testing.T) {
	s := source(91)
	counts := map[bool]int{}
	for _, d := range chainDessins(t) {
		for range 3 {
			cycle := s.cycle(d)
			for _, chain := range append(s.nearCycles(d, cycle), cycle, s.numbers(d.Darts, -2, 2), s.numbers(d.Darts, -1000, 1000)) {
				counts[checkIsCycle(t, d, chain)]++
			}
		}
	}
	for _, d := range allDessins(3) {
		for a := int64(-2); a <= 2; a++ {
			for b := int64(-2); b <= 2; b++ {
				for c := int64(-2); c <= 2; c++ {
					counts[checkIsCycle(t, d, []int64{a, b, c})]++
				}
			}
		}
	}
	if counts[true] < 3000 || counts[false] < 3000 {
		t.Errorf("cycles, and other chains: %v", counts)
	}
}

func TestKnownCycles(t *testing.T) {
	cases := []struct {
		text  string
		chain []int64
		want  bool
	}{
		{"1|()|()", []int64{0}, true},
		{"1|()|()", []int64{1}, false},
		{"2|(0 1)|()", []int64{1, -1}, false},
		{"2|()|(0 1)", []int64{1, -1}, false},
		{"2|(0 1)|(0 1)", []int64{1, -1}, true},
		{"2|(0 1)|(0 1)", []int64{1000, -1000}, true},
		{"2|(0 1)|(0 1)", []int64{1000, -999}, false},
		{"2|(0 1)|(0 1)", []int64{1, 1}, false},
		{"3|(0 1 2)|(0 1 2)", []int64{1000, -500, -500}, true},
		{"3|(0 1 2)|(0 1 2)", []int64{-1000, 1000, 0}, true},
		{"3|(0 1 2)|(0 1)", []int64{0, 1, -1}, false},
		{"3|(0 1 2)|(0 1)", []int64{1, -1, 0}, true},
		{"4|(0 1)(2 3)|(0 2)(1 3)", []int64{1, -1, -1, 1}, true},
		{"4|(0 1)(2 3)|(0 2)(1 3)", []int64{1, -1, 1, -1}, false},
		{"4|(0 1)(2 3)|(0 2)(1 3)", []int64{1, 1, -1, -1}, false},
		{"4|(1 2)|(0 1)(2 3)", []int64{0, 0, 0, 0}, true},
		{"4|(1 2)|(0 1)(2 3)", []int64{1, -1, 1, -1}, false},
	}
	for _, c := range cases {
		if yes, code := impl.IsCycle(mustParse(t, c.text), c.chain); yes != c.want || code != impl.ErrNone {
			t.Errorf("IsCycle(%s, %v) = %v, %d", c.text, c.chain, yes, code)
		}
	}
}

func TestTreeEdges(t *testing.T) {
	for _, d := range chainDessins(t) {
		edges, code := impl.TreeEdges(d)
		want, others := treeEdgesByHand(d)
		if !slices.Equal(edges, want) || code != impl.ErrNone {
			t.Fatalf("TreeEdges(%v) = %v, %d; want %v", d, edges, code, want)
		}
		vertices := len(cyclesByHand(d.Black, d.Darts)) + len(cyclesByHand(d.White, d.Darts))
		if len(edges) != vertices-1 {
			t.Errorf("TreeEdges(%v) are %d for %d vertices", d, len(edges), vertices)
		}
		if genus := genusByHand(d); genus == 0 && len(cyclesByHand(faceByHand(d), d.Darts)) == 1 && len(others) > 0 {
			t.Errorf("TreeEdges(%v) are not all edges of a tree", d)
		}
	}
	cases := []struct {
		text string
		want []int64
	}{
		{"1|()|()", []int64{0}},
		{"3|(0 1 2)|()", []int64{0, 1, 2}},
		{"3|(0 1 2)|(0 1 2)", []int64{0}},
		{"3|(0 1 2)|(0 1)", []int64{0, 2}},
		{"3|(0 1 2)|(1 2)", []int64{0, 1}},
		{"4|(0 1)(2 3)|(0 2)(1 3)", []int64{0, 1, 2}},
		{"4|(0 3)(1 2)|(0 2)(1 3)", []int64{0, 1, 2}},
		{"5|(0 1 2 3)|(0 1 2)(3 4)", []int64{0, 3, 4}},
		{"16|(0 1 2 3 4 5 6 7 8 9 10 11 12 13 14 15)|(0 15 14 13 12 11 10 9 8 7 6 5 4 3 2 1)", []int64{0}},
	}
	for _, c := range cases {
		if edges, code := impl.TreeEdges(mustParse(t, c.text)); !slices.Equal(edges, c.want) || code != impl.ErrNone {
			t.Errorf("TreeEdges(%s) = %v, %d; want %v", c.text, edges, code, c.want)
		}
	}
	chain, _ := impl.ChainDessin(16)
	if edges, code := impl.TreeEdges(chain); !slices.Equal(edges, upTo(16)) || code != impl.ErrNone {
		t.Errorf("TreeEdges(chain of 16) = %v, %d", edges, code)
	}
	checkOwnMemory(t, "TreeEdges", func() [][]int64 {
		edges, _ := impl.TreeEdges(chain)
		return [][]int64{edges}
	})
}

func TestCycleOfEdge(t *testing.T) {
	long := 0
	for _, d := range chainDessins(t) {
		tree, _ := treeEdgesByHand(d)
		for x := range d.Darts {
			cycle, code := impl.CycleOfEdge(d, x)
			if slices.Contains(tree, x) {
				if len(cycle) != 0 || code != impl.ErrState {
					t.Fatalf("CycleOfEdge(%v, %d) = %v, %d, though it is a tree edge", d, x, cycle, code)
				}
				continue
			}
			round := roundByHand(d, tree, x)
			if !slices.Equal(cycle, cycleOfRound(d.Darts, round)) || code != impl.ErrNone {
				t.Fatalf("CycleOfEdge(%v, %d) = %v, %d; want one along %v", d, x, cycle, code, round)
			}
			if len(round) >= 4 {
				long++
			}
			checkCycleOfEdge(t, d, tree, x, cycle)
		}
	}
	if long < 100 {
		t.Errorf("only %d cycles have more than two edges", long)
	}
}

// checkCycleOfEdge checks what tells the cycle of an edge.
func checkCycleOfEdge(t *testing.T, d impl.Dessin, tree []int64, x int64, cycle []int64) {
	t.Helper()
	if !isCycleByHand(d, cycle) || cycle[x] != 1 {
		t.Errorf("CycleOfEdge(%v, %d) = %v", d, x, cycle)
	}
	for y, number := range cycle {
		if number != 0 && int64(y) != x && !slices.Contains(tree, int64(y)) {
			t.Errorf("CycleOfEdge(%v, %d) = %v has another edge beside %v", d, x, cycle, tree)
		}
	}
}

func TestKnownCyclesOfEdges(t *testing.T) {
	cases := []struct {
		text string
		x    int64
		want []int64
		code int64
	}{
		{"1|()|()", 0, nil, impl.ErrState},
		{"2|(0 1)|(0 1)", 0, nil, impl.ErrState},
		{"2|(0 1)|(0 1)", 1, []int64{-1, 1}, impl.ErrNone},
		{"3|(0 1 2)|(0 1 2)", 1, []int64{-1, 1, 0}, impl.ErrNone},
		{"3|(0 1 2)|(0 1 2)", 2, []int64{-1, 0, 1}, impl.ErrNone},
		{"3|(0 1 2)|(1 2)", 2, []int64{0, -1, 1}, impl.ErrNone},
		{"3|(0 1 2)|(1 2)", 1, nil, impl.ErrState},
		{"3|(0 1 2)|(1 2)", 0, nil, impl.ErrState},
		{"4|(0 1)(2 3)|(0 2)(1 3)", 3, []int64{1, -1, -1, 1}, impl.ErrNone},
		{"4|(0 1)(2 3)|(0 2)(1 3)", 2, nil, impl.ErrState},
		{"6|(0 1)(2 3)(4 5)|(0 3)(1 4)(2 5)", 5, []int64{-1, 1, -1, 1, -1, 1}, impl.ErrNone},
		{"6|(0 1)(2 3)(4 5)|(0 3)(1 4)(2 5)", 4, nil, impl.ErrState},
		{"5|(0 1 2 3)|(0 1 2)(3 4)", 2, []int64{-1, 0, 1, 0, 0}, impl.ErrNone},
		{"5|(0 1)(2 3 4)|(0 2)(1 3)", 3, []int64{1, -1, -1, 1, 0}, impl.ErrNone},
	}
	for _, c := range cases {
		if cycle, code := impl.CycleOfEdge(mustParse(t, c.text), c.x); !slices.Equal(cycle, c.want) || code != c.code {
			t.Errorf("CycleOfEdge(%s, %d) = %v, %d; want %v, %d", c.text, c.x, cycle, code, c.want, c.code)
		}
	}
	band, _ := impl.BandDessin(6)
	checkOwnMemory(t, "CycleOfEdge", func() [][]int64 {
		cycle, _ := impl.CycleOfEdge(band, 3)
		return [][]int64{cycle}
	})
	for _, x := range []int64{-1, -2, 6, 7, 16, 256, 1 << 32, math.MinInt64, math.MaxInt64} {
		if cycle, code := impl.CycleOfEdge(band, x); len(cycle) != 0 || code != impl.ErrRange {
			t.Errorf("CycleOfEdge(%v, %d) = %v, %d", band, x, cycle, code)
		}
	}
}

// TestLongCycleOfEdge has one face inside of 2 n edges, and one outside.
func TestLongCycleOfEdge(t *testing.T) {
	for n := int64(1); n <= 8; n++ {
		d := impl.Dessin{Darts: 2 * n}
		want := make([]int64, 2*n)
		for x := range 2 * n {
			d.Black[x] = byte(x ^ 1)
			d.White[x] = byte((x + 2*n - 1 + x%2*2) % (2 * n))
			want[x] = 2*(x%2) - 1
		}
		if cycle, code := impl.CycleOfEdge(d, 2*n-1); !slices.Equal(cycle, want) || code != impl.ErrNone {
			t.Errorf("CycleOfEdge(%v, %d) = %v, %d", d, 2*n-1, cycle, code)
		}
	}
}

// checkChainsRefused fails unless the functions of chains return a code with zero values. A chain
// that is good stands beside the bad one in both orders.
func checkChainsRefused(t *testing.T, name string, d impl.Dessin, chain, good []int64, want int64) {
	t.Helper()
	if yes, code := impl.IsCycle(d, chain); yes || code != want {
		t.Errorf("%s: IsCycle(%v) = %v, %d", name, chain, yes, code)
	}
	if yes, code := impl.IsBounding(d, chain); yes || code != want {
		t.Errorf("%s: IsBounding(%v) = %v, %d", name, chain, yes, code)
	}
	for _, both := range [][2][]int64{{chain, good}, {good, chain}, {chain, chain}} {
		if number, code := impl.IntersectionOf(d, both[0], both[1]); number != 0 || code != want {
			t.Errorf("%s: IntersectionOf(%v) = %d, %d", name, both, number, code)
		}
	}
}

func TestNoChains(t *testing.T) {
	for _, text := range []string{"3|(0 1 2)|(0 1)", "3|(0 1 2)|(0 1 2)"} {
		for name, chain := range notChains() {
			checkChainsRefused(t, name, mustParse(t, text), chain, []int64{1, -1, 0}, impl.ErrRange)
			// Something that is no chain tells more than a chain that is no cycle.
			checkChainsRefused(t, name, mustParse(t, text), chain, []int64{1, 0, 0}, impl.ErrRange)
		}
	}
	for name, d := range notDessins() {
		for _, chain := range [][]int64{nil, {0, 0, 0}, {1, 0, 0}, {1, -1}, {1001, 0}, make([]int64, 16), make([]int64, max(0, min(d.Darts, 16)))} {
			checkChainsRefused(t, name, d, chain, []int64{0, 0}, impl.ErrInvalid)
		}
		for _, x := range []int64{0, 1, -1, 16} {
			if cycle, code := impl.CycleOfEdge(d, x); len(cycle) != 0 || code != impl.ErrInvalid {
				t.Errorf("%s: CycleOfEdge(%d) = %v, %d", name, x, cycle, code)
			}
		}
		if rows, code := impl.BoundariesOf(d); len(rows) != 0 || code != impl.ErrInvalid {
			t.Errorf("%s: BoundariesOf = %v, %d", name, rows, code)
		}
		if edges, code := impl.TreeEdges(d); len(edges) != 0 || code != impl.ErrInvalid {
			t.Errorf("%s: TreeEdges = %v, %d", name, edges, code)
		}
		if rows, code := impl.HomologyBasis(d); len(rows) != 0 || code != impl.ErrInvalid {
			t.Errorf("%s: HomologyBasis = %v, %d", name, rows, code)
		}
		if rows, code := impl.IntersectionTable(d); len(rows) != 0 || code != impl.ErrInvalid {
			t.Errorf("%s: IntersectionTable = %v, %d", name, rows, code)
		}
	}
}

// TestGreatestEntries has chains that are just good, at each dart.
func TestGreatestEntries(t *testing.T) {
	d := mustParse(t, "3|(0 1 2)|(0 1 2)")
	for x := range 3 {
		for _, number := range []int64{1000, -1000} {
			chain := make([]int64, 3)
			chain[x], chain[(x+1)%3] = number, -number
			if yes, code := impl.IsCycle(d, chain); !yes || code != impl.ErrNone {
				t.Errorf("IsCycle(%v) = %v, %d", chain, yes, code)
			}
			if yes, code := impl.IsBounding(d, chain); yes || code != impl.ErrNone {
				t.Errorf("IsBounding(%v) = %v, %d", chain, yes, code)
			}
			if n, code := impl.IntersectionOf(d, chain, []int64{1000, -1000, 0}); n%1000000 != 0 || code != impl.ErrNone {
				t.Errorf("IntersectionOf(%v) = %v, %d", chain, n, code)
			}
		}
	}
}
