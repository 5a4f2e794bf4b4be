package tests

import (
	"math"
	"slices"
	"strings"
	"testing"

	"loop.example/g01200/impl"
)

func TestLimitOfEntries(t *testing.T) {
	if impl.MaxEntry != 1000 {
		t.Errorf("MaxEntry = %d", impl.MaxEntry)
	}
}

// voltageCases calls a function with all voltages modulo 2 and 3 of the dessins of at most 2 darts,
// and some of greater ones.
func voltageCases(t *testing.T, check func(d impl.Dessin, v voltages)) {
	t.Helper()
	for n := int64(1); n <= 2; n++ {
		for _, d := range allDessins(n) {
			for m := int64(1); m <= 3; m++ {
				for _, v := range allVoltages(n, m) {
					check(d, v)
				}
			}
		}
	}
	s := source(9)
	for i, d := range append(sampleDessins(), groupDessins(t)...) {
		if d.Darts != 4 || i%5 == 0 {
			for _, v := range s.sampleVoltages(d, 1, 2, int64(3+s.below(3)), int64(6+s.below(10)), 16) {
				check(d, v)
			}
		}
	}
}

func TestSumsOfVoltages(t *testing.T) {
	counts := map[bool]int{}
	voltageCases(t, func(d impl.Dessin, v voltages) {
		given := v.spare()
		sums, code := impl.SumsOfVoltages(d, v.m, given.black, given.white)
		if !sameLists(sums, v.sumsByHand(d)) || code != impl.ErrNone {
			t.Fatalf("SumsOfVoltages(%v, %v) = %v, %d; want %v", d, v, sums, code, v.sumsByHand(d))
		}
		given.checkKept(t, "SumsOfVoltages", v)
		yes, code := impl.IsUnbranched(d, v.m, given.black, given.white)
		if yes != v.isUnbranchedByHand(d) || code != impl.ErrNone {
			t.Fatalf("IsUnbranched(%v, %v) = %v, %d with the sums %v", d, v, yes, code, sums)
		}
		given.checkKept(t, "IsUnbranched", v)
		counts[yes]++
	})
	if counts[true] < 3000 || counts[false] < 3000 {
		t.Errorf("voltages that are unbranched, and others: %v", counts)
	}
}

func TestKnownSumsOfVoltages(t *testing.T) {
	cases := []struct {
		text string
		v    voltages
		want [][]int64
	}{
		{"1|()|()", voltages{1, []int64{0}, []int64{0}}, [][]int64{{0}, {0}, {0}}},
		{"1|()|()", voltages{16, []int64{15}, []int64{15}}, [][]int64{{15}, {15}, {14}}},
		{"1|()|()", voltages{5, []int64{2}, []int64{3}}, [][]int64{{2}, {3}, {0}}},
		{"2|(0 1)|()", voltages{3, []int64{1, 0}, []int64{0, 2}}, [][]int64{{1}, {0, 2}, {0}}},
		{"2|(0 1)|()", voltages{2, []int64{1, 1}, []int64{1, 0}}, [][]int64{{0}, {1, 0}, {1}}},
		{"2|(0 1)|(0 1)", voltages{4, []int64{3, 2}, []int64{1, 0}}, [][]int64{{1}, {1}, {3, 3}}},
		{"3|(0 1 2)|(0 1)", voltages{5, []int64{1, 2, 3}, []int64{4, 0, 2}}, [][]int64{{1}, {4, 2}, {1, 1}}},
		{"3|(0 1 2)|(0 1)", voltages{7, []int64{1, 2, 3}, []int64{4, 0, 2}}, [][]int64{{6}, {4, 2}, {1, 4}}},
		{"4|(1 2)|(0 1)(2 3)", voltages{8, []int64{1, 2, 3, 4}, []int64{5, 6, 7, 1}}, [][]int64{{1, 5, 4}, {3, 0}, {5}}},
	}
	for _, c := range cases {
		sums, code := impl.SumsOfVoltages(mustParse(t, c.text), c.v.m, c.v.black, c.v.white)
		if !sameLists(sums, c.want) || code != impl.ErrNone {
			t.Errorf("SumsOfVoltages(%s, %v) = %v, %d; want %v", c.text, c.v, sums, code, c.want)
		}
	}
	star, _ := impl.StarDessin(4)
	checkOwnMemory(t, "SumsOfVoltages", func() [][]int64 {
		sums, _ := impl.SumsOfVoltages(star, 3, []int64{1, 2, 0, 1}, []int64{2, 2, 1, 0})
		return sums
	})
}

// TestOneSumAloneBranches has voltages whose sums are 0 but for two of one kind, or one of each of
// two kinds.
func TestOneSumAloneBranches(t *testing.T) {
	cases := []struct {
		text string
		v    voltages
		want [][]int64
	}{
		{"4|(0 1)(2 3)|(0 2)(1 3)", voltages{3, []int64{1, 0, 2, 0}, make([]int64, 4)}, [][]int64{{1, 2}, {0, 0}, {1, 2}}},
		{"2|(0 1)|()", voltages{3, []int64{0, 0}, []int64{1, 2}}, [][]int64{{0}, {1, 2}, {0}}},
		{"2|()|(0 1)", voltages{3, []int64{1, 2}, []int64{0, 0}}, [][]int64{{1, 2}, {0}, {0}}},
		{"2|(0 1)|(0 1)", voltages{3, []int64{1, 2}, []int64{0, 0}}, [][]int64{{0}, {0}, {1, 2}}},
		{"1|()|()", voltages{3, []int64{0}, []int64{1}}, [][]int64{{0}, {1}, {1}}},
		{"1|()|()", voltages{3, []int64{1}, []int64{0}}, [][]int64{{1}, {0}, {1}}},
		{"1|()|()", voltages{3, []int64{1}, []int64{2}}, [][]int64{{1}, {2}, {0}}},
	}
	for _, c := range cases {
		d := mustParse(t, c.text)
		sums, code := impl.SumsOfVoltages(d, c.v.m, c.v.black, c.v.white)
		yes, second := impl.IsUnbranched(d, c.v.m, c.v.black, c.v.white)
		if !sameLists(sums, c.want) || yes || code != impl.ErrNone || second != impl.ErrNone {
			t.Errorf("%s with %v: the sums are %v, and IsUnbranched = %v", c.text, c.v, sums, yes)
		}
	}
}

func checkCover(t *testing.T, d impl.Dessin, v voltages) int64 {
	t.Helper()
	var want impl.Dessin
	wanted := int64(impl.ErrNone)
	if d.Darts*v.m > 16 {
		wanted = impl.ErrLimit
	} else if cover := coverByHand(d, v.m, v.black, v.white); joinsAll(cover) {
		want = cover
	} else {
		wanted = impl.ErrState
	}
	given := v.spare()
	if cover, code := impl.CoverOf(d, v.m, given.black, given.white); cover != want || code != wanted {
		t.Fatalf("CoverOf(%v, %v) = %v, %d; want %v, %d", d, v, cover, code, want, wanted)
	}
	given.checkKept(t, "CoverOf", v)
	return wanted
}

func TestCoverOf(t *testing.T) {
	counts := map[int64]int{}
	check := func(d impl.Dessin, v voltages) { counts[checkCover(t, d, v)]++ }
	voltageCases(t, check)
	s := source(16)
	for n := int64(1); n <= 16; n++ {
		for m := int64(1); m <= 16; m++ {
			for range 6 {
				if d := (impl.Dessin{Darts: n, Black: s.places(n), White: s.places(n)}); joinsAll(d) {
					check(d, s.voltages(d, m))
					check(d, s.unbranched(d, m))
				}
			}
		}
	}
	if counts[impl.ErrNone] < 2000 || counts[impl.ErrState] < 1000 || counts[impl.ErrLimit] < 2000 {
		t.Errorf("coverings by their codes: %v", counts)
	}
}

func TestKnownCovers(t *testing.T) {
	cases := []struct {
		text string
		v    voltages
		want string
		code int64
	}{
		{"1|()|()", voltages{1, []int64{0}, []int64{0}}, "1|()|()", impl.ErrNone},
		{"1|()|()", voltages{2, []int64{1}, []int64{1}}, "2|(0 1)|(0 1)", impl.ErrNone},
		{"1|()|()", voltages{2, []int64{0}, []int64{1}}, "2|()|(0 1)", impl.ErrNone},
		{"1|()|()", voltages{2, []int64{0}, []int64{0}}, "", impl.ErrState},
		{"1|()|()", voltages{4, []int64{2}, []int64{2}}, "", impl.ErrState},
		{"1|()|()", voltages{6, []int64{2}, []int64{3}}, "6|(0 2 4)(1 3 5)|(0 3)(1 4)(2 5)", impl.ErrNone},
		{"1|()|()", voltages{6, []int64{2}, []int64{4}}, "", impl.ErrState},
		{"2|(0 1)|()", voltages{2, []int64{1, 0}, []int64{0, 0}}, "4|(0 3 1 2)|()", impl.ErrNone},
		{"2|(0 1)|()", voltages{2, []int64{1, 1}, []int64{0, 0}}, "", impl.ErrState},
		{"2|(0 1)|()", voltages{2, []int64{1, 1}, []int64{0, 1}}, "4|(0 3)(1 2)|(2 3)", impl.ErrNone},
		{"2|(0 1)|()", voltages{8, []int64{1, 0}, []int64{0, 0}}, "16|(0 9 1 10 2 11 3 12 4 13 5 14 6 15 7 8)|()", impl.ErrNone},
		{"2|(0 1)|()", voltages{9, []int64{1, 0}, []int64{0, 0}}, "", impl.ErrLimit},
		{"2|(0 1)|()", voltages{9, []int64{0, 0}, []int64{0, 0}}, "", impl.ErrLimit},
		{"3|(0 1 2)|(0 1 2)", voltages{3, []int64{1, 1, 1}, []int64{0, 0, 0}}, "9|(0 4 8)(1 5 6)(2 3 7)|(0 3 6)(1 4 7)(2 5 8)", impl.ErrNone},
	}
	for _, c := range cases {
		cover, code := impl.CoverOf(mustParse(t, c.text), c.v.m, c.v.black, c.v.white)
		if code != c.code || code != impl.ErrNone && cover != (impl.Dessin{}) || code == impl.ErrNone && textByHand(cover) != c.want {
			t.Errorf("CoverOf(%s, %v) = %v, %d", c.text, c.v, cover, code)
		}
	}
	// One number turns the star of one dart in up to sixteen sheets.
	one, _ := impl.StarDessin(1)
	for m := int64(1); m <= 16; m++ {
		star, _ := impl.StarDessin(m)
		if cover, code := impl.CoverOf(one, m, []int64{1 % m}, []int64{0}); cover != star || code != impl.ErrNone {
			t.Errorf("CoverOf(one dart, modulo %d) = %v, %d", m, cover, code)
		}
	}
	for _, d := range sampleDessins() {
		zeros := make([]int64, d.Darts)
		if cover, code := impl.CoverOf(d, 1, zeros, zeros); cover != d || code != impl.ErrNone {
			t.Errorf("CoverOf(%v, modulo 1) = %v, %d", d, cover, code)
		}
	}
}

// TestSetsOverDartsAreBlocksOfCoverings is promise 19.
func TestSetsOverDartsAreBlocksOfCoverings(t *testing.T) {
	s := source(190)
	checked := 0
	for i, d := range append(sampleDessins(), groupDessins(t)...) {
		if d.Darts > 8 || d.Darts == 4 && i%5 > 0 {
			continue
		}
		for m := int64(2); d.Darts*m <= 16; m++ {
			for _, v := range []voltages{s.voltages(d, m), s.unbranched(d, m)} {
				cover, code := impl.CoverOf(d, m, v.black, v.white)
				if code == impl.ErrNone {
					checked++
					checkSetsOverDarts(t, d, m, cover)
				}
			}
		}
	}
	if checked < 400 {
		t.Errorf("only %d coverings were checked", checked)
	}
}

func checkSetsOverDarts(t *testing.T, d impl.Dessin, m int64, cover impl.Dessin) {
	t.Helper()
	for x := range d.Darts {
		var set []int64
		for i := range m {
			set = append(set, m*x+i)
		}
		if !isBlockByHand(cover, set) {
			t.Fatalf("%v is no block of %v", set, cover)
		}
		if e, code := impl.QuotientByBlock(cover, set); e != d || code != impl.ErrNone {
			t.Fatalf("QuotientByBlock(%v, %v) = %v, %d; want %v", cover, set, e, code, d)
		}
	}
}

// TestEulerNumbersOfCoverings is the first part of the Guarantee, and what becomes of it where a sum
// is not 0: there are fewer vertices or faces over the one with this sum.
func TestEulerNumbersOfCoverings(t *testing.T) {
	unbranched, branched := 0, 0
	check := func(d impl.Dessin, v voltages) {
		cover, code := impl.CoverOf(d, v.m, v.black, v.white)
		if code != impl.ErrNone {
			return
		}
		euler, code := impl.EulerOf(cover)
		of, _ := impl.EulerOf(d)
		yes, _ := impl.IsUnbranched(d, v.m, v.black, v.white)
		if code != impl.ErrNone || (euler == v.m*of) != yes {
			t.Fatalf("%v has the Euler number %d, and its covering by %v has %d", d, of, v, euler)
		}
		want := -d.Darts * v.m
		for _, sum := range slices.Concat(v.sumsByHand(d)...) {
			want += greatestDivisor(sum, v.m)
		}
		if euler != want {
			t.Fatalf("the covering of %v by %v has the Euler number %d; want %d", d, v, euler, want)
		}
		if yes && v.m > 1 {
			unbranched++
		} else if !yes {
			branched++
		}
	}
	voltageCases(t, check)
	s := source(77)
	for range 4000 {
		n := int64(3 + s.below(3))
		if d := (impl.Dessin{Darts: n, Black: s.places(n), White: s.places(n)}); joinsAll(d) && genusByHand(d) > 0 {
			check(d, s.unbranched(d, int64(2+s.below(int(16/n)-1))))
		}
	}
	if unbranched < 500 || branched < 500 {
		t.Errorf("%d unbranched coverings, and %d others", unbranched, branched)
	}
}

// greatestDivisor is the greatest one of x and y.
func greatestDivisor(x, y int64) int64 {
	if y == 0 {
		return x
	}
	return greatestDivisor(y, x%y)
}

func checkWalk(t *testing.T, d impl.Dessin, v voltages, x, i int64, word string) {
	t.Helper()
	given := v.spare()
	end, number := v.walkByHand(d, x, i, word)
	if walk, code := impl.WalkOf(d, v.m, given.black, given.white, x, i, word); !slices.Equal(walk, []int64{end, number}) || code != impl.ErrNone {
		t.Fatalf("WalkOf(%v, %v, %d, %d, %q) = %v, %d; want %d, %d", d, v, x, i, word, walk, code, end, number)
	}
	given.checkKept(t, "WalkOf", v)
}

func TestWalkOf(t *testing.T) {
	words := sampleWords()
	s := source(61)
	voltageCases(t, func(d impl.Dessin, v voltages) {
		for range 3 {
			checkWalk(t, d, v, int64(s.below(int(d.Darts))), int64(s.below(int(v.m))), words[s.below(len(words))])
		}
	})
	for _, d := range []impl.Dessin{mustParse(t, "3|(0 1 2)|(0 1)"), mustParse(t, "3|(0 1 2)|(0 1 2)"), mustParse(t, "4|(0 1 2)|(1 2 3)")} {
		for _, v := range s.sampleVoltages(d, 1, 4, 16) {
			for x := range d.Darts {
				for i := range v.m {
					for _, word := range words {
						checkWalk(t, d, v, x, i, word)
					}
				}
			}
		}
	}
}

func TestKnownWalks(t *testing.T) {
	black, white := []int64{1, 2, 3}, []int64{4, 0, 2}
	cases := []struct {
		x, i int64
		word string
		want []int64
	}{
		{0, 0, "", []int64{0, 0}},
		{2, 4, "", []int64{2, 4}},
		{0, 0, "b", []int64{1, 1}},
		{0, 4, "b", []int64{1, 0}},
		{0, 0, "bb", []int64{2, 3}},
		{0, 2, "bbb", []int64{0, 3}},
		{0, 0, "B", []int64{2, 2}},
		{0, 3, "w", []int64{1, 2}},
		{0, 3, "W", []int64{1, 3}},
		{1, 3, "W", []int64{0, 4}},
		{2, 1, "w", []int64{2, 3}},
		{2, 1, "W", []int64{2, 4}},
		{0, 0, "F", []int64{0, 1}},
		{0, 0, "f", []int64{0, 4}},
		{1, 0, "F", []int64{2, 4}},
		{2, 4, "f", []int64{1, 0}},
		{1, 0, "bw", []int64{2, 4}},
		{1, 0, "wb", []int64{1, 1}},
		{1, 2, strings.Repeat("bB", 30), []int64{1, 2}},
		{1, 2, strings.Repeat("w", 60), []int64{1, 2}},
		{2, 2, strings.Repeat("w", 59), []int64{2, 0}},
	}
	d := mustParse(t, "3|(0 1 2)|(0 1)")
	for _, c := range cases {
		walk, code := impl.WalkOf(d, 5, black, white, c.x, c.i, c.word)
		if !slices.Equal(walk, c.want) || code != impl.ErrNone {
			t.Errorf("WalkOf from %d and %d by %q = %v, %d; want %v", c.x, c.i, c.word, walk, code, c.want)
		}
	}
	checkOwnMemory(t, "WalkOf", func() [][]int64 {
		walk, _ := impl.WalkOf(d, 5, black, white, 1, 2, "bwf")
		return [][]int64{walk}
	})
}

// TestWalksAreWordsOfCoverings compares walks with the values of words (chapter 3) in a covering.
func TestWalksAreWordsOfCoverings(t *testing.T) {
	words := sampleWords()
	s := source(191)
	checked := 0
	voltageCases(t, func(d impl.Dessin, v voltages) {
		cover, code := impl.CoverOf(d, v.m, v.black, v.white)
		if code != impl.ErrNone {
			return
		}
		word := words[s.below(len(words))]
		value, _ := impl.ValueOfWord(cover, word)
		x, i := int64(s.below(int(d.Darts))), int64(s.below(int(v.m)))
		walk, code := impl.WalkOf(d, v.m, v.black, v.white, x, i, word)
		if code != impl.ErrNone || len(walk) != 2 || v.m*walk[0]+walk[1] != int64(value[v.m*x+i]) {
			t.Fatalf("WalkOf(%v, %v, %d, %d, %q) = %v, %d; its value is %v", d, v, x, i, word, walk, code, value)
		}
		checked++
	})
	if checked < 1000 {
		t.Errorf("only %d walks were checked", checked)
	}
}

// TestWalksAroundVerticesAndFaces add their sums.
func TestWalksAroundVerticesAndFaces(t *testing.T) {
	s := source(62)
	voltageCases(t, func(d impl.Dessin, v voltages) {
		sums, code := impl.SumsOfVoltages(d, v.m, v.black, v.white)
		for kind, p := range []impl.Places{d.Black, d.White, faceByHand(d)} {
			for j, cycle := range cyclesByHand(p, d.Darts) {
				x, i := cycle[s.below(len(cycle))], int64(s.below(int(v.m)))
				word := strings.Repeat([]string{"b", "w", "F"}[kind], len(cycle))
				walk, walkCode := impl.WalkOf(d, v.m, v.black, v.white, x, i, word)
				if !slices.Equal(walk, []int64{x, (i + sums[kind][j]) % v.m}) || code != impl.ErrNone || walkCode != impl.ErrNone {
					t.Fatalf("%v, %v: the walk from %d and %d by %q ends at %v, %d, with the sums %v", d, v, x, i, word, walk, walkCode, sums)
				}
			}
		}
	})
}

// checkVoltagesRefused fails unless all four functions return a code with zero values.
func checkVoltagesRefused(t *testing.T, name string, d impl.Dessin, v voltages, words []string, want int64) {
	t.Helper()
	if sums, code := impl.SumsOfVoltages(d, v.m, v.black, v.white); len(sums) != 0 || code != want {
		t.Errorf("%s: SumsOfVoltages = %v, %d", name, sums, code)
	}
	if yes, code := impl.IsUnbranched(d, v.m, v.black, v.white); yes || code != want {
		t.Errorf("%s: IsUnbranched = %v, %d", name, yes, code)
	}
	if cover, code := impl.CoverOf(d, v.m, v.black, v.white); cover != (impl.Dessin{}) || code != want {
		t.Errorf("%s: CoverOf = %v, %d", name, cover, code)
	}
	for _, word := range words {
		for _, x := range []int64{0, -1, 16} {
			if walk, code := impl.WalkOf(d, v.m, v.black, v.white, x, 0, word); len(walk) != 0 || code != want {
				t.Errorf("%s: WalkOf(%d, %q) = %v, %d", name, x, word, walk, code)
			}
		}
	}
}

func TestNoVoltages(t *testing.T) {
	words := []string{"", "bw", "x", strings.Repeat("b", 61)}
	for _, text := range []string{"3|(0 1 2)|(0 1)", "3|(0 1 2)|(0 1 2)", "3|()|(0 2 1)"} {
		for name, v := range notVoltages() {
			checkVoltagesRefused(t, name, mustParse(t, text), v, words, impl.ErrRange)
		}
	}
	// Where there are no voltages, it does not matter that there would be too many darts.
	sixteen, _ := impl.StarDessin(16)
	zeros := make([]int64, 16)
	for _, v := range []voltages{{0, zeros, zeros}, {17, zeros, zeros}, {2, zeros[:15], zeros}, {16, zeros, slices.Repeat([]int64{16}, 16)}} {
		checkVoltagesRefused(t, "sixteen darts", sixteen, v, words, impl.ErrRange)
	}
	good := voltages{2, []int64{1, 0, 0}, []int64{0, 0, 1}}
	for name, d := range notDessins() {
		checkVoltagesRefused(t, name, d, good, words, impl.ErrInvalid)
		checkVoltagesRefused(t, name, d, voltages{0, nil, nil}, words, impl.ErrInvalid)
		checkVoltagesRefused(t, name, d, voltages{16, zeros, zeros}, words, impl.ErrInvalid)
		if d.Darts >= 1 && d.Darts <= 16 {
			checkVoltagesRefused(t, name, d, voltages{2, zeros[:d.Darts], zeros[:d.Darts]}, words, impl.ErrInvalid)
		}
	}
}

func TestNoWalks(t *testing.T) {
	d := mustParse(t, "3|(0 1 2)|(0 1)")
	check := func(x, i int64, word string, want int64) {
		t.Helper()
		walk, code := impl.WalkOf(d, 4, []int64{1, 0, 3}, []int64{2, 2, 1}, x, i, word)
		if code != want || want != impl.ErrNone && len(walk) != 0 {
			t.Errorf("WalkOf from %d and %d by %q = %v, %d; want %d", x, i, word, walk, code, want)
		}
	}
	out := []int64{-1, -2, 5, 16, 17, 256, 1 << 32, math.MinInt64, math.MaxInt64}
	for _, word := range []string{"", "bWf", "x", strings.Repeat("w", 61)} {
		for _, number := range out {
			check(number, 0, word, impl.ErrRange)
			check(2, number, word, impl.ErrRange)
			check(number, number, word, impl.ErrRange)
		}
		check(3, 0, word, impl.ErrRange)
		check(0, 4, word, impl.ErrRange)
	}
	check(2, 3, strings.Repeat("fF", 30), impl.ErrNone)
	for _, word := range []string{"x", "bx", "xb", "b w", " ", "bw\n", "é", "b\xff", "\x00", strings.Repeat("b", 61), strings.Repeat("F", 257), strings.Repeat("w", 60) + "x", strings.Repeat("w", 59) + "x"} {
		check(0, 0, word, impl.ErrSyntax)
		check(2, 3, word, impl.ErrSyntax)
	}
	for letter := range 256 {
		word := string([]byte{byte(letter)})
		if strings.Contains("bwfBWF", word) {
			check(1, 1, word, impl.ErrNone)
		} else {
			check(1, 1, word, impl.ErrSyntax)
			check(1, 1, "b"+word, impl.ErrSyntax)
		}
	}
}
