package tests

import (
	"math"
	"slices"
	"testing"

	"loop.example/g01200/impl"
)

// TestBlocksByPermutations tells blocks by all permutations of the group, as the document does.
func TestBlocksByPermutations(t *testing.T) {
	for n := int64(1); n <= 4; n++ {
		for i, d := range allDessins(n) {
			if n == 4 && i%3 != 0 {
				continue
			}
			group := groupOfDessin(d)
			for x := range n {
				for y := range n {
					want := leastBlockByHand(d, group, x, y)
					if block, code := impl.BlockOf(d, x, y); !slices.Equal(block, want) || code != impl.ErrNone {
						t.Fatalf("BlockOf(%v, %d, %d) = %v, %d", d, x, y, block, code)
					}
				}
			}
		}
	}
}

// leastBlockByHand tries all sets of darts with x and y.
func leastBlockByHand(d impl.Dessin, group map[impl.Places]bool, x, y int64) []int64 {
	least := upTo(d.Darts)
	for bits := range 1 << d.Darts {
		var set []int64
		for z := range d.Darts {
			if bits>>z&1 == 1 {
				set = append(set, z)
			}
		}
		isBlock := slices.Contains(set, x) && slices.Contains(set, y)
		for p := range group {
			isBlock = isBlock && staysOrLeaves(set, p)
		}
		if isBlock && len(set) < len(least) {
			least = set
		}
	}
	return least
}

// withBlocks returns the dessins of groupDessins of which each fifth one with many darts is kept.
func withBlocks(t *testing.T) []impl.Dessin {
	t.Helper()
	var some []impl.Dessin
	for i, d := range groupDessins(t) {
		if d.Darts <= 10 || i%5 == 0 {
			some = append(some, d)
		}
	}
	return some
}

func TestBlockOf(t *testing.T) {
	for _, d := range withBlocks(t) {
		all := allBlocks(d)
		for x := range d.Darts {
			blocks := blocksWith(d, all, x)
			for y := range d.Darts {
				want := firstWith(blocks, y)
				if block, code := impl.BlockOf(d, x, y); !slices.Equal(block, want) || code != impl.ErrNone {
					t.Fatalf("BlockOf(%v, %d, %d) = %v, %d, not %v", d, x, y, block, code, want)
				}
			}
		}
	}
}

func TestBlocksOf(t *testing.T) {
	several := 0
	for _, d := range withBlocks(t) {
		all := allBlocks(d)
		var want [][]int64
		for y := int64(1); y < d.Darts; y++ {
			want = append(want, firstWith(all, y))
		}
		slices.SortFunc(want, func(a, b []int64) int {
			if len(a) != len(b) {
				return len(a) - len(b)
			}
			return slices.Compare(a, b)
		})
		want = slices.CompactFunc(want, slices.Equal)
		if len(want) > 2 {
			several++
		}
		if blocks, code := impl.BlocksOf(d); !sameLists(blocks, want) || code != impl.ErrNone {
			t.Fatalf("BlocksOf(%v) = %v, %d, not %v", d, blocks, code, want)
		}
		primitive := len(all) <= 2
		if yes, code := impl.IsPrimitive(d); yes != primitive || code != impl.ErrNone {
			t.Fatalf("IsPrimitive(%v) = %v, %d", d, yes, code)
		}
	}
	if several < 20 {
		t.Errorf("only %d dessins with more than two blocks are tested", several)
	}
}

func TestBlocksOfKnownGroups(t *testing.T) {
	for _, g := range knownGroups() {
		d := mustParse(t, g.text)
		if blocks, code := impl.BlocksOf(d); !sameLists(blocks, g.blocks) || code != impl.ErrNone {
			t.Errorf("%s: BlocksOf = %v, %d", g.name, blocks, code)
		}
		if yes, code := impl.IsPrimitive(d); yes != (len(g.blocks) <= 1 && g.name != "quaternions") || code != impl.ErrNone {
			t.Errorf("%s: IsPrimitive = %v, %d", g.name, yes, code)
		}
	}
	cases := []struct {
		text string
		want [][]int64
	}{
		{"1|()|()", nil},
		{"2|()|(0 1)", [][]int64{{0, 1}}},
		{"4|(0 1)(2 3)|(0 2)(1 3)", [][]int64{{0, 1}, {0, 2}, {0, 3}}},
		{"6|(0 1 2 3 4 5)|()", [][]int64{{0, 3}, {0, 2, 4}, upTo(6)}},
		{"6|(0 5 4 3 2 1)|()", [][]int64{{0, 3}, {0, 2, 4}, upTo(6)}},
		{"6|(0 2 4 1 3 5)|(0 2 4 1 3 5)", [][]int64{{0, 1}, {0, 3, 4}, upTo(6)}},
		{"6|(0 3)(1 4)(2 5)|(0 1 2)(3 5 4)", [][]int64{{0, 3}, {0, 4}, {0, 5}, {0, 1, 2}}},
	}
	for _, c := range cases {
		if blocks, code := impl.BlocksOf(mustParse(t, c.text)); !sameLists(blocks, c.want) || code != impl.ErrNone {
			t.Errorf("BlocksOf(%s) = %v, %d", c.text, blocks, code)
		}
	}
}

// TestBlocksOfStars: these are the multiples of the divisors.
func TestBlocksOfStars(t *testing.T) {
	for n := int64(1); n <= 16; n++ {
		star, _ := impl.StarDessin(n)
		var want [][]int64
		for step := n - 1; step >= 1; step-- {
			if n%step != 0 {
				continue
			}
			var block []int64
			for x := int64(0); x < n; x += step {
				block = append(block, x)
			}
			want = append(want, block)
		}
		if blocks, code := impl.BlocksOf(star); !sameLists(blocks, want) || code != impl.ErrNone {
			t.Errorf("BlocksOf(star of %d) = %v, %d", n, blocks, code)
		}
		if yes, code := impl.IsPrimitive(star); yes != (len(want) <= 1) || code != impl.ErrNone {
			t.Errorf("IsPrimitive(star of %d) = %v, %d", n, yes, code)
		}
	}
}

// TestBlockOfOneDart: this dart alone is the least block with both.
func TestBlockOfOneDart(t *testing.T) {
	for _, d := range groupDessins(t) {
		for x := range d.Darts {
			if block, code := impl.BlockOf(d, x, x); !slices.Equal(block, []int64{x}) || code != impl.ErrNone {
				t.Fatalf("BlockOf(%v, %d, %d) = %v, %d", d, x, x, block, code)
			}
		}
	}
}

func TestBlockOfRefuses(t *testing.T) {
	for name, d := range notDessins() {
		for _, x := range []int64{0, 1, -1, 16, 17} {
			if block, code := impl.BlockOf(d, x, 0); len(block) != 0 || code != impl.ErrInvalid {
				t.Errorf("%s: BlockOf = %v, %d", name, block, code)
			}
		}
	}
	for n := int64(1); n <= 16; n++ {
		star, _ := impl.StarDessin(n)
		for _, x := range []int64{-1, n, n + 1, 16, 256, 1 << 32, math.MinInt64, math.MaxInt64} {
			for _, c := range [][2]int64{{x, 0}, {0, x}, {x, x}, {n - 1, x}} {
				if block, code := impl.BlockOf(star, c[0], c[1]); len(block) != 0 || code != impl.ErrRange {
					t.Errorf("BlockOf(star of %d, %v) = %v, %d", n, c, block, code)
				}
			}
		}
	}
}

func TestBlocksAreNewMemory(t *testing.T) {
	star, _ := impl.StarDessin(12)
	checkOwnMemory(t, "BlocksOf", func() [][]int64 {
		blocks, _ := impl.BlocksOf(star)
		return blocks
	})
	checkOwnMemory(t, "BlockOf", func() [][]int64 {
		block, _ := impl.BlockOf(star, 1, 5)
		return [][]int64{block}
	})
}

// quotientBySets numbers the sets that the group makes of a block, and asks one dart of each.
func quotientBySets(d impl.Dessin, block []int64) (impl.Dessin, []int64) {
	sets := setsByHand(d, block)
	slices.SortFunc(sets, func(a, b []int64) int { return int(a[0] - b[0]) })
	setOf := func(x byte) int64 {
		return int64(slices.IndexFunc(sets, func(set []int64) bool { return slices.Contains(set, int64(x)) }))
	}
	e := impl.Dessin{Darts: int64(len(sets))}
	for i, set := range sets {
		last := set[len(set)-1]
		e.Black[i], e.White[i] = byte(setOf(d.Black[last])), byte(setOf(d.White[last]))
	}
	var numbers []int64
	for x := range byte(d.Darts) {
		numbers = append(numbers, setOf(x))
	}
	return e, numbers
}

func TestQuotientsByBlocksAreDessins(t *testing.T) {
	between := 0
	for _, d := range withBlocks(t) {
		all := allBlocks(d)
		for x := range d.Darts {
			for _, block := range blocksWith(d, all, x) {
				if len(block) > 1 && len(block) < int(d.Darts) {
					between++
				}
				checkQuotientByBlock(t, d, block)
			}
		}
	}
	if between < 200 {
		t.Errorf("only %d blocks of some darts are tested", between)
	}
}

func checkQuotientByBlock(t *testing.T, d impl.Dessin, block []int64) {
	t.Helper()
	want, numbers := quotientBySets(d, block)
	given := slices.Clone(block)
	e, code := impl.QuotientByBlock(d, given)
	if e != want || code != impl.ErrNone {
		t.Fatalf("QuotientByBlock(%v, %v) = %v, %d, not %v", d, block, e, code, want)
	}
	if !impl.IsDessin(e) || d.Darts != e.Darts*int64(len(block)) {
		t.Fatalf("QuotientByBlock(%v, %v) = %v", d, block, e)
	}
	if !slices.Equal(given, block) {
		t.Fatalf("QuotientByBlock changes its argument to %v", given)
	}
	found, _ := impl.MorphismsOf(d, e)
	if !slices.ContainsFunc(found, func(list []int64) bool { return slices.Equal(list, numbers) }) {
		t.Fatalf("%v leads not to its quotient %v by %v", d, e, block)
	}
}

func TestQuotientByKnownBlocks(t *testing.T) {
	cases := []struct {
		text  string
		block []int64
		want  string
	}{
		{"1|()|()", []int64{0}, "1|()|()"},
		{"3|(0 1 2)|(0 1)", []int64{2}, "3|(0 1 2)|(0 1)"},
		{"3|(0 1 2)|(0 1)", []int64{0, 1, 2}, "1|()|()"},
		{"4|(0 1 2 3)|()", []int64{1, 3}, "2|(0 1)|()"},
		{"4|(1 2)|(0 1)(2 3)", []int64{0, 3}, "2|()|(0 1)"},
		{"4|(1 2)|(0 1)(2 3)", []int64{1, 2}, "2|()|(0 1)"},
		{"6|(0 1 2 3 4 5)|()", []int64{2, 5}, "3|(0 1 2)|()"},
		{"6|(0 1 2 3 4 5)|()", []int64{1, 3, 5}, "2|(0 1)|()"},
		{"6|(0 2 4 1 3 5)|()", []int64{2, 3}, "3|(0 1 2)|()"},
		{"6|(0 3)(1 4)(2 5)|(0 1 2)(3 5 4)", []int64{0, 4}, "3|(0 1)|(0 1 2)"},
		{"6|(0 3)(1 4)(2 5)|(0 1 2)(3 5 4)", []int64{3, 4, 5}, "2|(0 1)|()"},
	}
	for _, c := range cases {
		e, code := impl.QuotientByBlock(mustParse(t, c.text), c.block)
		if text, _ := impl.DessinText(e); text != c.want || code != impl.ErrNone {
			t.Errorf("QuotientByBlock(%s, %v) = %s, %d", c.text, c.block, text, code)
		}
	}
}

func TestQuotientByBlockRefusesWhatIsNoBlock(t *testing.T) {
	s := source(7)
	refused := 0
	for _, d := range withBlocks(t) {
		for range 12 {
			var set []int64
			for x := range d.Darts {
				if s.below(3) == 0 {
					set = append(set, x)
				}
			}
			if len(set) == 0 || isBlockByHand(d, set) {
				continue
			}
			refused++
			if e, code := impl.QuotientByBlock(d, set); e != (impl.Dessin{}) || code != impl.ErrState {
				t.Fatalf("QuotientByBlock(%v, %v) = %v, %d", d, set, e, code)
			}
		}
	}
	if refused < 500 {
		t.Errorf("only %d sets were refused", refused)
	}
	for _, set := range [][]int64{{0, 1}, {0, 3}, {0, 1, 2}, {1, 2, 3}} {
		star, _ := impl.StarDessin(4)
		if e, code := impl.QuotientByBlock(star, set); e != (impl.Dessin{}) || code != impl.ErrState {
			t.Errorf("QuotientByBlock(star of 4, %v) = %v, %d", set, e, code)
		}
	}
}

func TestQuotientByBlockRefusesOtherLists(t *testing.T) {
	for name, d := range notDessins() {
		for _, list := range [][]int64{nil, {0}, {0, 1}, {1, 0}, {-1}, {16}} {
			if e, code := impl.QuotientByBlock(d, list); e != (impl.Dessin{}) || code != impl.ErrInvalid {
				t.Errorf("%s: QuotientByBlock by %v = %v, %d", name, list, e, code)
			}
		}
	}
	for n := int64(1); n <= 16; n++ {
		star, _ := impl.StarDessin(n)
		lists := [][]int64{nil, {}, {0, 0}, {n - 1, 0}, {0, n}, {n}, {-1}, {-1, 0}, {0, 256}, {256}, {1 << 32}, {math.MinInt64}, {math.MaxInt64}, append(upTo(n), n), append(upTo(n), n-1), append([]int64{-1}, upTo(n)...)}
		if n > 1 {
			lists = append(lists, []int64{1, 0}, []int64{0, 1, 1}, []int64{0, 1, 0}, []int64{1, 0, n})
		}
		for _, list := range lists {
			if e, code := impl.QuotientByBlock(star, list); e != (impl.Dessin{}) || code != impl.ErrRange {
				t.Errorf("QuotientByBlock(star of %d, %v) = %v, %d", n, list, e, code)
			}
		}
	}
}

// TestSetsOverDartsAreBlocks: the quotient by those of a cyclic covering is the dessin itself.
func TestSetsOverDartsAreBlocks(t *testing.T) {
	covered := 0
	for _, c := range coverings() {
		p := otherNames(c.cover)
		renamed := withOtherNames(c.cover)
		alike, _ := impl.CanonicalDessin(c.base)
		for x := range c.base.Darts {
			var over, moved []int64
			for i := range c.sheets {
				over = append(over, c.sheets*x+i)
				moved = append(moved, int64(p[c.sheets*x+i]))
			}
			if e, code := impl.QuotientByBlock(c.cover, over); e != c.base || code != impl.ErrNone {
				t.Fatalf("QuotientByBlock(%v, %v) = %v, %d, not %v", c.cover, over, e, code, c.base)
			}
			slices.Sort(moved)
			e, code := impl.QuotientByBlock(renamed, moved)
			if e, _ = impl.CanonicalDessin(e); e != alike || code != impl.ErrNone {
				t.Fatalf("QuotientByBlock(%v, %v) is not alike %v, %d", renamed, moved, c.base, code)
			}
			for _, y := range over {
				block, code := impl.BlockOf(c.cover, over[0], y)
				if code != impl.ErrNone || slices.ContainsFunc(block, func(z int64) bool { return !slices.Contains(over, z) }) {
					t.Fatalf("BlockOf(%v, %d, %d) = %v, %d is not over %d", c.cover, over[0], y, block, code, x)
				}
			}
		}
		if yes, code := impl.IsPrimitive(c.cover); yes && c.sheets > 1 && c.base.Darts > 1 || code != impl.ErrNone {
			t.Errorf("IsPrimitive(%v) = %v, %d", c.cover, yes, code)
		}
		if c.sheets > 1 && c.base.Darts > 1 {
			covered++
		}
	}
	if covered < 50 {
		t.Errorf("only %d coverings are tested", covered)
	}
}
