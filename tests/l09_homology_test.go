package tests

import (
	"slices"
	"strings"
	"testing"

	"loop.example/g01200/impl"
)

// cycleDessins are those of some dessins that have cycles, most of them with handles.
func cycleDessins(t *testing.T) []impl.Dessin {
	t.Helper()
	return slices.DeleteFunc(chainDessins(t), func(d impl.Dessin) bool { return len(cyclesOfEdges(d)) == 0 })
}

func intersect(t *testing.T, d impl.Dessin, a, b []int64) int64 {
	t.Helper()
	number, code := impl.IntersectionOf(d, a, b)
	if code != impl.ErrNone {
		t.Fatalf("IntersectionOf(%v, %v, %v): code %d", d, a, b, code)
	}
	return number
}

func checkIntersection(t *testing.T, d impl.Dessin, a, b []int64) int64 {
	t.Helper()
	givenA, givenB := withSpare(a), withSpare(b)
	number := intersect(t, d, givenA, givenB)
	if 2*number != twiceIntersectionByHand(d, a, b) {
		t.Fatalf("IntersectionOf(%v, %v, %v) = %d; want half of %d", d, a, b, number, twiceIntersectionByHand(d, a, b))
	}
	checkSpareKept(t, "IntersectionOf", givenA, a)
	checkSpareKept(t, "IntersectionOf", givenB, b)
	return number
}

// TestIntersectionsAreAlternating is the second part of promise 9, and of the Guarantee.
func TestIntersectionsAreAlternating(t *testing.T) {
	s := source(92)
	counts := map[bool]int{}
	for _, d := range cycleDessins(t) {
		cycles := append(cyclesOfEdges(d), s.cycle(d), s.cycle(d), make([]int64, d.Darts))
		for i, a := range cycles {
			if number := checkIntersection(t, d, a, a); number != 0 {
				t.Errorf("IntersectionOf(%v, %v, %v) = %d", d, a, a, number)
			}
			for _, b := range cycles[:i] {
				there, back := checkIntersection(t, d, a, b), checkIntersection(t, d, b, a)
				if there != -back {
					t.Errorf("IntersectionOf(%v, %v, %v) = %d, and %d the other way round", d, a, b, there, back)
				}
				counts[there != 0]++
			}
		}
	}
	if counts[true] < 5000 || counts[false] < 5000 {
		t.Errorf("intersections that are not 0, and others: %v", counts)
	}
}

func TestIntersectionsOfSums(t *testing.T) {
	s := source(93)
	for _, d := range cycleDessins(t) {
		a, b, c := s.cycle(d), s.cycle(d), s.cycle(d)
		sum := slices.Clone(a)
		addTimes(sum, -5, b)
		if intersect(t, d, sum, c) != intersect(t, d, a, c)-5*intersect(t, d, b, c) {
			t.Errorf("the intersections of %v, %v and their sum with %v do not fit in %v", a, b, c, d)
		}
		boundaries, _ := impl.BoundariesOf(d)
		addTimes(a, 1, s.sumOfMultiples(d.Darts, boundaries))
		addTimes(sum, 5, b)
		if intersect(t, d, a, c) != intersect(t, d, sum, c) || intersect(t, d, c, a) != intersect(t, d, c, sum) {
			t.Errorf("boundaries change the intersections of %v with %v in %v", sum, c, d)
		}
	}
}

func TestKnownIntersections(t *testing.T) {
	cases := []struct {
		text string
		a    []int64
		b    []int64
		want int64
	}{
		{"1|()|()", []int64{0}, []int64{0}, 0},
		{"3|(0 1 2)|(0 1 2)", []int64{1, -1, 0}, []int64{0, 1, -1}, 1},
		{"3|(0 1 2)|(0 1 2)", []int64{0, 1, -1}, []int64{1, -1, 0}, -1},
		{"3|(0 1 2)|(0 1 2)", []int64{-1, 0, 1}, []int64{0, 1, -1}, -1},
		{"3|(0 1 2)|(0 1 2)", []int64{1000, -1000, 0}, []int64{0, 1000, -1000}, 1000000},
		{"3|(0 1 2)|(0 1 2)", []int64{1000, -500, -500}, []int64{-1000, 0, 1000}, -500000},
		{"3|(0 1 2)|(0 2 1)", []int64{1, -1, 0}, []int64{0, 1, -1}, 0},
		{"3|(0 2 1)|(0 2 1)", []int64{1, -1, 0}, []int64{0, 1, -1}, -1},
		{"4|(0 1 2 3)|(0 1 2 3)", []int64{1, -1, 0, 0}, []int64{0, 0, 1, -1}, 0},
		{"4|(0 1 2 3)|(0 1 2 3)", []int64{1, 0, -1, 0}, []int64{0, 1, 0, -1}, 2},
		{"4|(0 1 2 3)|(0 3 2 1)", []int64{1, 0, -1, 0}, []int64{0, 1, 0, -1}, 0},
		{"4|(0 1 2 3)|(0 1 3 2)", []int64{1, 0, -1, 0}, []int64{0, 1, 0, -1}, 1},
		{"4|(0 1 2 3)|(0 2)(1 3)", []int64{1, 0, -1, 0}, []int64{0, 1, 0, -1}, 1},
		{"4|(0 2)(1 3)|(0 1 2 3)", []int64{1, 0, -1, 0}, []int64{0, 1, 0, -1}, 1},
		{"4|(0 3 2 1)|(0 2)(1 3)", []int64{1, 0, -1, 0}, []int64{0, 1, 0, -1}, -1},
		{"5|(0 1 2 3 4)|(0 1 2 3 4)", []int64{1, -1, 0, 0, 0}, []int64{0, 0, 0, 1, -1}, 0},
		{"5|(0 1 2 3 4)|(0 1 2 3 4)", []int64{1, -1, 0, 0, 0}, []int64{0, 0, -1, 0, 1}, 0},
		{"5|(0 1 2 3 4)|(0 1 2 3 4)", []int64{1, -1, 0, 0, 0}, []int64{-1, 0, 1, 0, 0}, -1},
	}
	for _, c := range cases {
		if number, code := impl.IntersectionOf(mustParse(t, c.text), c.a, c.b); number != c.want || code != impl.ErrNone {
			t.Errorf("IntersectionOf(%s, %v, %v) = %d, %d; want %d", c.text, c.a, c.b, number, code, c.want)
		}
	}
}

// TestIntersectionsOfOthers has at least one chain that is no cycle.
func TestIntersectionsOfOthers(t *testing.T) {
	s := source(94)
	refused := 0
	for _, d := range chainDessins(t) {
		cycle := s.cycle(d)
		for _, chain := range append(s.nearCycles(d, cycle), s.numbers(d.Darts, -1000, 1000)) {
			if isCycleByHand(d, chain) {
				continue
			}
			refused++
			for _, both := range [][2][]int64{{chain, cycle}, {cycle, chain}, {chain, chain}} {
				if number, code := impl.IntersectionOf(d, both[0], both[1]); number != 0 || code != impl.ErrState {
					t.Fatalf("IntersectionOf(%v, %v) = %d, %d", d, both, number, code)
				}
			}
			if yes, code := impl.IsBounding(d, chain); yes || code != impl.ErrNone {
				t.Fatalf("IsBounding(%v, %v) = %v, %d", d, chain, yes, code)
			}
		}
	}
	if refused < 1000 {
		t.Errorf("only %d chains were refused", refused)
	}
}

// TestIntersectionsOfRenamedDessins are the same, and those of mirror images the opposite ones.
func TestIntersectionsOfRenamedDessins(t *testing.T) {
	s := source(95)
	rename := func(chain []int64, p impl.Places) []int64 {
		renamed := make([]int64, len(chain))
		for x, number := range chain {
			renamed[p[x]] = number
		}
		return renamed
	}
	for _, d := range cycleDessins(t) {
		a, b := s.cycle(d), s.cycle(d)
		want := intersect(t, d, a, b)
		for _, p := range renamings(d) {
			if number := intersect(t, renamedByHand(d, p), rename(a, p), rename(b, p)); number != want {
				t.Errorf("the intersection of %v and %v in %v is %d, and renamed by %v it is %d", a, b, d, want, p, number)
			}
		}
		mirrored, _ := impl.MirrorOf(d)
		if number := intersect(t, mirrored, a, b); number != -want {
			t.Errorf("the intersection of %v and %v in %v is %d, and in its mirror image %d", a, b, d, want, number)
		}
	}
}

// turnWord is the shorter one of the words that turn around a vertex from a dart to another one.
func turnWord(vertex []int64, x, y int64, forth, back string) string {
	steps := remainder(int64(slices.Index(vertex, y)-slices.Index(vertex, x)), int64(len(vertex)))
	if rest := int64(len(vertex)) - steps; rest < steps {
		return strings.Repeat(back, int(rest))
	}
	return strings.Repeat(forth, int(steps))
}

// roundWord turns at the white and at the black vertices between the edges of a round.
func roundWord(d impl.Dessin, round []int64) string {
	vertexOf := func(p impl.Places, x int64) []int64 {
		vertices := cyclesByHand(p, d.Darts)
		return vertices[slices.IndexFunc(vertices, func(vertex []int64) bool { return slices.Contains(vertex, x) })]
	}
	word := ""
	for i, x := range round {
		y := round[(i+1)%len(round)]
		if i%2 == 0 {
			word += turnWord(vertexOf(d.White, x), x, y, "w", "W")
		} else {
			word += turnWord(vertexOf(d.Black, x), x, y, "b", "B")
		}
	}
	return word
}

// TestWalksAlongCyclesCrossOthers counts intersections by walks along the cycles of edges, with
// voltages that tell how often another cycle is crossed from its right to its left.
func TestWalksAlongCyclesCrossOthers(t *testing.T) {
	s := source(96)
	crossing := 0
	for _, d := range cycleDessins(t) {
		tree, others := treeEdgesByHand(d)
		across := s.cycle(d)
		v := acrossCycle(d, 16, across)
		for _, x := range others {
			round := roundByHand(d, tree, x)
			along := cycleOfRound(d.Darts, round)
			walk, code := impl.WalkOf(d, 16, v.black, v.white, x, 3, roundWord(d, round))
			number := intersect(t, d, across, along)
			if !slices.Equal(walk, []int64{x, remainder(3+number, 16)}) || code != impl.ErrNone {
				t.Fatalf("in %v the intersection of %v and %v is %d, and the walk comes to %v, %d", d, across, along, number, walk, code)
			}
			if number != 0 {
				crossing++
			}
		}
	}
	if crossing < 1000 {
		t.Errorf("only %d walks cross a cycle", crossing)
	}
}

func checkIsBounding(t *testing.T, d impl.Dessin, chain []int64) bool {
	t.Helper()
	given := withSpare(chain)
	yes, code := impl.IsBounding(d, given)
	if yes != isBoundingByHand(d, chain) || code != impl.ErrNone {
		t.Fatalf("IsBounding(%v, %v) = %v, %d", d, chain, yes, code)
	}
	checkSpareKept(t, "IsBounding", given, chain)
	return yes
}

func TestIsBounding(t *testing.T) {
	s := source(97)
	counts := map[bool]int{}
	for _, d := range chainDessins(t) {
		cycles, boundaries := cyclesOfEdges(d), boundariesByHand(d)
		chains := append(s.nearCycles(d, s.cycle(d)), s.cycle(d), s.numbers(d.Darts, -1, 1))
		chains = append(chains, s.sumOfMultiples(d.Darts, boundaries), make([]int64, d.Darts))
		for _, chain := range slices.Concat(chains, cycles, boundaries) {
			yes := checkIsBounding(t, d, chain)
			counts[yes]++
			// The bounding chains are the cycles whose intersection with all cycles is 0.
			meets := !isCycleByHand(d, chain)
			for _, other := range cycles {
				meets = meets || intersect(t, d, chain, other) != 0
			}
			if meets == yes {
				t.Fatalf("IsBounding(%v, %v) = %v", d, chain, yes)
			}
		}
	}
	for _, d := range append(allDessins(2), allDessins(3)...) {
		for code := range 125 {
			chain := []int64{int64(code%5 - 2), int64(code/5%5 - 2), int64(code/25 - 2)}
			counts[checkIsBounding(t, d, chain[:d.Darts])]++
		}
	}
	if counts[true] < 3000 || counts[false] < 3000 {
		t.Errorf("bounding chains, and others: %v", counts)
	}
}

func TestKnownBoundingChains(t *testing.T) {
	cases := []struct {
		text  string
		chain []int64
		want  bool
	}{
		{"1|()|()", []int64{0}, true},
		{"1|()|()", []int64{1}, false},
		{"2|(0 1)|(0 1)", []int64{1, -1}, true},
		{"2|(0 1)|(0 1)", []int64{-1000, 1000}, true},
		{"2|(0 1)|(0 1)", []int64{1, 0}, false},
		{"3|(0 1 2)|(0 1 2)", []int64{1, -1, 0}, false},
		{"3|(0 1 2)|(0 1 2)", []int64{1000, -1000, 0}, false},
		{"3|(0 1 2)|(0 1 2)", []int64{0, 0, 0}, true},
		{"3|(0 1 2)|(0 2 1)", []int64{1, -1, 0}, true},
		{"3|(0 1 2)|(0 2 1)", []int64{2, 3, -5}, true},
		{"4|(0 1 2 3)|(0 1 2 3)", []int64{1, -1, 1, -1}, true},
		{"4|(0 1 2 3)|(0 1 2 3)", []int64{1, -1, 0, 0}, false},
		{"4|(0 1 2 3)|(0 1 2 3)", []int64{1, 0, -1, 0}, false},
		{"4|(0 1 2 3)|(0 1 2 3)", []int64{1, 1, -1, -1}, false},
		{"4|(0 1 2 3)|(0 1 3 2)", []int64{1, -1, 0, 0}, false},
		{"4|(0 1 2 3)|(0 1 3 2)", []int64{0, 0, 1, -1}, true},
	}
	for _, c := range cases {
		if yes, code := impl.IsBounding(mustParse(t, c.text), c.chain); yes != c.want || code != impl.ErrNone {
			t.Errorf("IsBounding(%s, %v) = %v, %d", c.text, c.chain, yes, code)
		}
	}
}

// homology returns the basis and its table.
func homology(t *testing.T, d impl.Dessin) (basis, table [][]int64) {
	t.Helper()
	basis, code := impl.HomologyBasis(d)
	table, second := impl.IntersectionTable(d)
	if code != impl.ErrNone || second != impl.ErrNone {
		t.Fatalf("HomologyBasis(%v) has the code %d, IntersectionTable %d", d, code, second)
	}
	return basis, table
}

func TestHomologyBasis(t *testing.T) {
	for _, d := range chainDessins(t) {
		basis, table := homology(t, d)
		tree, _ := treeEdgesByHand(d)
		var want, rows [][]int64
		for _, x := range leftEdgesByHand(d) {
			want = append(want, cycleOfRound(d.Darts, roundByHand(d, tree, x)))
		}
		for _, a := range want {
			var row []int64
			for _, b := range want {
				row = append(row, twiceIntersectionByHand(d, a, b)/2)
			}
			rows = append(rows, row)
		}
		if !sameLists(basis, want) || !sameLists(table, rows) {
			t.Fatalf("HomologyBasis(%v) = %v, want %v; IntersectionTable = %v, want %v", d, basis, want, table, rows)
		}
		if int64(len(basis)) != 2*genusByHand(d) {
			t.Errorf("HomologyBasis(%v) has %d cycles for the genus %d", d, len(basis), genusByHand(d))
		}
	}
}

// TestTablesHaveTheDeterminantOne is the last part of the Guarantee.
func TestTablesHaveTheDeterminantOne(t *testing.T) {
	genera := map[int64]int{}
	for _, d := range chainDessins(t) {
		_, table := homology(t, d)
		if determinant := determinantByHand(table); determinant != 1 {
			t.Errorf("IntersectionTable(%v) = %v has the determinant %d", d, table, determinant)
		}
		for i, row := range table {
			for j, number := range row {
				if number != -table[j][i] {
					t.Errorf("IntersectionTable(%v) = %v", d, table)
				}
			}
		}
		genera[genusByHand(d)]++
	}
	for genus := range int64(8) {
		if genera[genus] < 3 {
			t.Errorf("only %d tables are of the genus %d", genera[genus], genus)
		}
	}
}

// TestCyclesAreSumsOfTheBasisAndBoundaries takes as many of each cycle of the basis away as the
// table tells; it is enough to do so for the cycles of edges.
func TestCyclesAreSumsOfTheBasisAndBoundaries(t *testing.T) {
	for _, d := range cycleDessins(t) {
		basis, table := homology(t, d)
		for _, cycle := range cyclesOfEdges(d) {
			var numbers []int64
			for _, other := range basis {
				numbers = append(numbers, intersect(t, d, cycle, other))
			}
			rest := slices.Clone(cycle)
			for i, other := range basis {
				// By Cramer's rule, with the determinant 1.
				replaced := copyLists(table)
				replaced[i] = numbers
				addTimes(rest, -determinantByHand(replaced), other)
			}
			if yes, code := impl.IsBounding(d, rest); !yes || code != impl.ErrNone {
				t.Fatalf("%v: of %v without the basis %v there remains %v", d, cycle, basis, rest)
			}
		}
	}
}

func TestKnownHomology(t *testing.T) {
	cases := []struct {
		text  string
		basis [][]int64
		table [][]int64
	}{
		{"1|()|()", nil, nil},
		{"4|(1 2)|(0 1)(2 3)", nil, nil},
		{"2|(0 1)|(0 1)", nil, nil},
		{"4|(0 1)(2 3)|(0 2)(1 3)", nil, nil},
		{"3|(0 1 2)|(0 1 2)", [][]int64{{-1, 1, 0}, {-1, 0, 1}}, [][]int64{{0, 1}, {-1, 0}}},
		{"3|(0 2 1)|(0 2 1)", [][]int64{{-1, 1, 0}, {-1, 0, 1}}, [][]int64{{0, -1}, {1, 0}}},
		{"4|(0 1 2 3)|(0 1 2 3)", [][]int64{{-1, 0, 1, 0}, {-1, 0, 0, 1}}, [][]int64{{0, 1}, {-1, 0}}},
		{"4|(0 1 2 3)|(0 1 3 2)", [][]int64{{-1, 1, 0, 0}, {-1, 0, 0, 1}}, [][]int64{{0, 1}, {-1, 0}}},
		{"4|(0 1 2 3)|(0 2)(1 3)", [][]int64{{-1, 0, 1, 0}, {0, -1, 0, 1}}, [][]int64{{0, 1}, {-1, 0}}},
		{"5|(0 1 2 3 4)|(0 1 2 3 4)", [][]int64{{-1, 1, 0, 0, 0}, {-1, 0, 1, 0, 0}, {-1, 0, 0, 1, 0}, {-1, 0, 0, 0, 1}}, [][]int64{{0, 1, 1, 1}, {-1, 0, 1, 1}, {-1, -1, 0, 1}, {-1, -1, -1, 0}}},
	}
	for _, c := range cases {
		if basis, table := homology(t, mustParse(t, c.text)); !sameLists(basis, c.basis) || !sameLists(table, c.table) {
			t.Errorf("%s: HomologyBasis = %v, IntersectionTable = %v", c.text, basis, table)
		}
	}
	five := mustParse(t, "5|(0 1 2 3 4)|(0 1 2 3 4)")
	checkOwnMemory(t, "HomologyBasis", func() [][]int64 {
		basis, _ := impl.HomologyBasis(five)
		return basis
	})
	checkOwnMemory(t, "IntersectionTable", func() [][]int64 {
		table, _ := impl.IntersectionTable(five)
		return table
	})
}

// TestGreatestGenus has one vertex of each colour and one or two faces.
func TestGreatestGenus(t *testing.T) {
	for n := int64(3); n <= 16; n++ {
		star, _ := impl.StarDessin(n)
		d := impl.Dessin{Darts: n, Black: star.Black, White: star.Black}
		basis, table := homology(t, d)
		if want := int(n-1) / 2 * 2; len(basis) != want || len(table) != want || determinantByHand(table) != 1 {
			t.Errorf("HomologyBasis(%v) = %v", d, basis)
		}
		for i, row := range table {
			for j, number := range row {
				if want := int64(min(1, max(-1, j-i))); number != want {
					t.Errorf("IntersectionTable(%v) = %v", d, table)
				}
			}
		}
	}
}
