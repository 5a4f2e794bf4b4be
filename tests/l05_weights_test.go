package tests

import (
	"fmt"
	"math"
	"slices"
	"testing"

	"loop.example/g01200/impl"
)

const billion = 1000000000

// checkWeights gives WeightsOf the sums of weights, from which these come back.
func checkWeights(t *testing.T, d impl.Dessin, weights []int64) {
	t.Helper()
	black, white := sumsByHand(d.Black, d.Darts, weights), sumsByHand(d.White, d.Darts, weights)
	first, second := withSpare(black), withSpare(white)
	found, code := impl.WeightsOf(d, first, second)
	if !slices.Equal(found, weights) || code != impl.ErrNone {
		t.Fatalf("WeightsOf(%v, %v, %v) = %v, %d, not %v", d, black, white, found, code, weights)
	}
	checkSpareKept(t, "WeightsOf", first, black)
	checkSpareKept(t, "WeightsOf", second, white)
}

// TestWeightsHaveTheirSums takes weights at random, small ones and ones of up to 62500000, of which
// 16 have a sum that is a number.
func TestWeightsHaveTheirSums(t *testing.T) {
	s := source(6)
	for _, d := range sampleTrees() {
		checkWeights(t, d, ones(int(d.Darts)))
		for _, most := range []int{3, 100, billion / 16} {
			var weights []int64
			for range d.Darts {
				weights = append(weights, int64(1+s.below(most)))
			}
			checkWeights(t, d, weights)
		}
	}
}

// TestWeightsOfAllSums takes all lists of sums of at most 6: those of weights that are tried one by
// one have them, and all others none.
func TestWeightsOfAllSums(t *testing.T) {
	const most = 6
	for n := 1; n <= 4; n++ {
		for i, word := range wordsByHand(n) {
			d := treeByHand(word)
			if i%2 == 1 {
				d = withOtherNames(d)
			}
			known := map[string][]int64{}
			for _, list := range numbersFrom(1, most, d.Darts) {
				known[fmt.Sprint(sumsByHand(d.Black, d.Darts, list), sumsByHand(d.White, d.Darts, list))] = list
			}
			p := len(cyclesByHand(d.Black, d.Darts))
			for _, sums := range numbersFrom(1, most, d.Darts+1) {
				want, fits := known[fmt.Sprint(sums[:p], sums[p:])]
				found, code := impl.WeightsOf(d, sums[:p], sums[p:])
				if !slices.Equal(found, want) || fits != (code == impl.ErrNone) || !fits && code != impl.ErrNotFound {
					t.Fatalf("WeightsOf(%v, %v, %v) = %v, %d, not %v", d, sums[:p], sums[p:], found, code, want)
				}
			}
		}
	}
}

// numbersFrom lists all lists of so many numbers in least..most.
func numbersFrom(least, most, length int64) [][]int64 {
	lists := [][]int64{nil}
	for range length {
		var longer [][]int64
		for _, list := range lists {
			for x := least; x <= most; x++ {
				longer = append(longer, append(slices.Clone(list), x))
			}
		}
		lists = longer
	}
	return lists
}

func TestKnownWeights(t *testing.T) {
	cases := []struct {
		text         string
		black, white []int64
		want         []int64
	}{
		{"1|()|()", []int64{1}, []int64{1}, []int64{1}},
		{"1|()|()", []int64{billion}, []int64{billion}, []int64{billion}},
		{"2|(0 1)|()", []int64{5}, []int64{2, 3}, []int64{2, 3}},
		{"2|()|(0 1)", []int64{2, 3}, []int64{5}, []int64{2, 3}},
		{"3|(1 2)|(0 1)", []int64{2, 5}, []int64{3, 4}, []int64{2, 1, 4}},
		{"4|(0 3)|(0 1 2)", []int64{5, 2, 3}, []int64{6, 4}, []int64{1, 2, 3, 4}},
		{"3|(0 2)|(0 1)", []int64{billion, 1}, []int64{billion, 1}, []int64{billion - 1, 1, 1}},
		{"2|(0 1)|()", []int64{billion}, []int64{billion - 1, 1}, []int64{billion - 1, 1}},
	}
	for _, c := range cases {
		if found, code := impl.WeightsOf(mustParse(t, c.text), c.black, c.white); !slices.Equal(found, c.want) || code != impl.ErrNone {
			t.Errorf("WeightsOf(%s, %v, %v) = %v, %d", c.text, c.black, c.white, found, code)
		}
	}
}

// TestSumsWithoutWeights: the two lists have different sums, or a weight would be 0 or less.
func TestSumsWithoutWeights(t *testing.T) {
	cases := []struct {
		text         string
		black, white []int64
	}{
		{"1|()|()", []int64{1}, []int64{2}},
		{"1|()|()", []int64{billion}, []int64{1}},
		{"2|(0 1)|()", []int64{5}, []int64{2, 2}},
		{"2|(0 1)|()", []int64{5}, []int64{5, 5}},
		{"2|()|(0 1)", []int64{2, 3}, []int64{6}},
		{"3|(1 2)|(0 1)", []int64{2, 2}, []int64{2, 2}},
		{"3|(1 2)|(0 1)", []int64{3, 1}, []int64{2, 2}},
		{"3|(0 2)|(0 1)", []int64{1, 1}, []int64{1, 1}},
		{"3|(0 2)|(0 1)", []int64{1, 2}, []int64{1, 2}},
		{"4|(0 3)|(0 1 2)", []int64{5, 2, 3}, []int64{6, 5}},
		{"4|(0 3)|(0 1 2)", []int64{4, 2, 3}, []int64{5, 4}},
		{"4|(0 3)|(0 1 2)", []int64{5, 3, 3}, []int64{6, 4}},
		{"4|(0 3)|(0 1 2)", []int64{5, 2, 3}, []int64{4, 6}},
	}
	for _, c := range cases {
		if found, code := impl.WeightsOf(mustParse(t, c.text), c.black, c.white); len(found) != 0 || code != impl.ErrNotFound {
			t.Errorf("WeightsOf(%s, %v, %v) = %v, %d", c.text, c.black, c.white, found, code)
		}
	}
}

// TestSumsOfOnesAndOneMore: with 1 more at one vertex alone there are no weights, and with 1 more at
// a black and a white one the weights on the path between both are 2 and 0 in turn, so that there
// are weights only if one edge is this path.
func TestSumsOfOnesAndOneMore(t *testing.T) {
	for _, d := range sampleTrees() {
		black, white := sumsOfOnes(d)
		ends, _ := vertexNames(d)
		for i := range black {
			black[i]++
			if found, code := impl.WeightsOf(d, black, white); len(found) != 0 || code != impl.ErrNotFound {
				t.Fatalf("WeightsOf(%v, %v, %v) = %v, %d", d, black, white, found, code)
			}
			for j := range white {
				white[j]++
				var want []int64
				if x := slices.Index(ends, [2]int{i, len(black) + j}); x >= 0 {
					want = ones(int(d.Darts))
					want[x] = 2
				}
				found, code := impl.WeightsOf(d, black, white)
				if !slices.Equal(found, want) || want != nil && code != impl.ErrNone || want == nil && code != impl.ErrNotFound {
					t.Fatalf("WeightsOf(%v, %v, %v) = %v, %d, not %v", d, black, white, found, code, want)
				}
				white[j]--
			}
			black[i]--
		}
	}
}

// TestGreatestSums: sums of 1 and of 1000000000 at the vertices of a chain in turn.
func TestGreatestSums(t *testing.T) {
	for n := int64(2); n <= 16; n++ {
		chain, _ := impl.ChainDessin(n)
		p, q := len(cyclesByHand(chain.Black, n)), len(cyclesByHand(chain.White, n))
		for _, sums := range [][2]int64{{billion, billion}, {billion, 1}, {1, billion}} {
			black, white := slices.Repeat(sums[:1], p), slices.Repeat(sums[1:], q)
			if found, code := impl.WeightsOf(chain, black, white); len(found) != 0 || code != impl.ErrNotFound {
				t.Errorf("WeightsOf(%v, %v, %v) = %v, %d", chain, black, white, found, code)
			}
		}
		star, _ := impl.StarDessin(n)
		weights := ones(int(n))
		weights[n-1] = billion - n + 1
		checkWeights(t, star, weights)
	}
}

// sumsOfOnes are the sums of weights of 1 in a dessin, which need be no tree.
func sumsOfOnes(d impl.Dessin) ([]int64, []int64) {
	weights := ones(int(d.Darts))
	return sumsByHand(d.Black, d.Darts, weights), sumsByHand(d.White, d.Darts, weights)
}

func checkNoWeights(t *testing.T, d impl.Dessin, black, white []int64, want int64) {
	t.Helper()
	if found, code := impl.WeightsOf(d, black, white); len(found) != 0 || code != want {
		t.Fatalf("WeightsOf(%v, %v, %v) = %v, %d", d, black, white, found, code)
	}
}

func TestWeightsOfNumbersOutOfRange(t *testing.T) {
	for _, d := range append(sampleTrees(), notTrees(t)...) {
		black, white := sumsOfOnes(d)
		checkNoWeights(t, d, nil, nil, impl.ErrRange)
		checkNoWeights(t, d, nil, white, impl.ErrRange)
		checkNoWeights(t, d, black, nil, impl.ErrRange)
		checkNoWeights(t, d, black[1:], white, impl.ErrRange)
		checkNoWeights(t, d, black, white[1:], impl.ErrRange)
		checkNoWeights(t, d, append(slices.Clone(black), 1), white, impl.ErrRange)
		checkNoWeights(t, d, black, append(slices.Clone(white), 1), impl.ErrRange)
		if len(black) != len(white) {
			checkNoWeights(t, d, white, black, impl.ErrRange)
		}
		for _, far := range []int64{0, -1, billion + 1, 1 << 32, math.MinInt64, math.MaxInt64} {
			for _, sums := range [][]int64{black, white} {
				for i, kept := range sums {
					sums[i] = far
					checkNoWeights(t, d, black, white, impl.ErrRange)
					sums[i] = kept
				}
			}
		}
	}
}

func TestWeightsOfTreesAlone(t *testing.T) {
	for _, d := range notTrees(t) {
		black, white := sumsOfOnes(d)
		checkNoWeights(t, d, black, white, impl.ErrState)
		black[0]++
		checkNoWeights(t, d, black, white, impl.ErrState)
	}
	for _, d := range notDessins() {
		for _, sums := range [][]int64{nil, {1}, {1, 1}, {0}, {billion + 1}, {-1, 2}, ones(16), ones(17)} {
			checkNoWeights(t, d, sums, sums, impl.ErrInvalid)
		}
	}
}

func TestWeightsAreNewMemory(t *testing.T) {
	d := treeByHand("(()())()")
	black, white := []int64{5, 2, 3}, []int64{6, 4}
	checkOwnMemory(t, "WeightsOf", func() [][]int64 {
		weights, _ := impl.WeightsOf(d, black, white)
		return [][]int64{weights}
	})
	same := ones(1)
	weights, _ := impl.WeightsOf(treeByHand("()"), same, same)
	weights[0] = 9
	if same[0] != 1 || !slices.Equal(black, []int64{5, 2, 3}) || !slices.Equal(white, []int64{6, 4}) {
		t.Errorf("weights share memory with sums: %v, %v, %v", same, black, white)
	}
}
