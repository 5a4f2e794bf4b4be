package tests

import (
	"fmt"
	"math/big"
	"slices"
	"testing"

	"loop.example/g01200/impl"
)

func TestIsMove(t *testing.T) {
	count := 0
	for kind := int64(-3); kind <= 5; kind++ {
		for first := int64(-2); first <= 23; first++ {
			for last := int64(-2); last <= 23; last++ {
				m := impl.Move{Kind: kind, First: first, Last: last}
				if impl.IsMove(m) != isMoveByHand(m) {
					t.Errorf("IsMove(%v) = %v", m, impl.IsMove(m))
				}
				if impl.IsMove(m) {
					count++
				}
			}
		}
	}
	if count != 402 || len(allMoves()) != 402 {
		t.Errorf("there are %d moves", count)
	}
	for _, m := range notMoves() {
		if impl.IsMove(m) {
			t.Errorf("%v is a move", m)
		}
	}
}

func checkMove(t *testing.T, m impl.Move, x impl.Fraction) int64 {
	t.Helper()
	want, wanted := moveByHand(m, x)
	value, code := impl.MoveFraction(m, x)
	if value != want || code != wanted {
		t.Fatalf("MoveFraction(%v, %v) = %v, %d; want %v, %d", m, x, value, code, want, wanted)
	}
	return code
}

func TestMoveFraction(t *testing.T) {
	counts := map[int64]int{}
	few, many, great := fractionsUpTo(3), fractionsUpTo(25), greatFractions()
	s := source(13)
	for _, m := range allMoves() {
		for _, x := range few {
			counts[checkMove(t, m, x)]++
		}
		if m.First+m.Last <= 5 {
			for _, x := range slices.Concat(many, great) {
				counts[checkMove(t, m, x)]++
			}
		}
		for range 5 {
			checkMove(t, m, s.fraction(1000000000))
			counts[checkMove(t, m, s.fraction(30))]++
			checkMove(t, m, great[s.below(len(great))])
		}
	}
	if counts[impl.ErrNone] < 4000 || counts[impl.ErrLimit] < 4000 {
		t.Errorf("values by their codes: %v", counts)
	}
	// Greater ones have values that are no fractions.
	for _, m := range []impl.Move{{Kind: 0}, {Kind: 1}, power(1, 1), power(1, 2), power(2, 1)} {
		for range 2000 {
			checkMove(t, m, s.fraction(1+s.below(100000)))
		}
	}
}

func TestValuesAtCornersAndPeaks(t *testing.T) {
	for _, m := range allMoves()[2:] {
		peak, _ := impl.FractionOf(m.First, m.First+m.Last)
		wanted := map[impl.Fraction]impl.Fraction{zero: zero, unit: zero, infinity: infinity, peak: unit}
		for x, want := range wanted {
			if value, code := impl.MoveFraction(m, x); value != want || code != impl.ErrNone {
				t.Errorf("MoveFraction(%v, %v) = %v, %d; want %v", m, x, value, code, want)
			}
		}
	}
	wanted := [][3]impl.Fraction{{zero, unit, infinity}, {unit, zero, unit}, {infinity, infinity, zero}}
	for _, want := range wanted {
		for kind := range int64(2) {
			if value, code := impl.MoveFraction(impl.Move{Kind: kind}, want[0]); value != want[1+kind] || code != impl.ErrNone {
				t.Errorf("Kind %d leads %v to %v, %d; want %v", kind, want[0], value, code, want[1+kind])
			}
		}
	}
}

func TestKnownValues(t *testing.T) {
	flip, turn := impl.Move{Kind: 0}, impl.Move{Kind: 1}
	cases := []struct {
		m        impl.Move
		num, den int64
		want     impl.Fraction
		code     int64
	}{
		{power(1, 1), 1, 2, unit, 0},
		{power(1, 1), 1, 4, over(3, 4), 0},
		{power(1, 1), 2, 1, over(-8, 1), 0},
		{power(1, 1), -1, 1, over(-8, 1), 0},
		{power(1, 2), 2, 3, over(1, 2), 0},
		{power(2, 1), 1, 3, over(1, 2), 0},
		{power(1, 2), -1, 1, over(-27, 1), 0},
		{power(2, 1), -1, 1, over(27, 2), 0},
		{power(1, 2), 2, 1, over(27, 2), 0},
		{power(2, 1), 2, 1, over(-27, 1), 0},
		{power(2, 2), 1, 4, over(9, 16), 0},
		{power(10, 1), 1, 11, over(1, part), 0},
		{power(1, 10), 10, 11, over(1, part), 0},
		{power(1, 3), -54, 71, over(-part, 25411681), 0},
		{power(1, 3), -18, 107, over(-part, 393238803), 0},
		// One half of what is a part at most.
		{power(1, 8), 1, 5, over(387420489, 500000000), 0},
		// The squares of 31622 and 31623 are on both sides of the limit.
		{power(1, 1), 1, 63244, over(63243, 999950884), 0},
		{power(1, 1), 1, 63246, impl.Fraction{}, impl.ErrLimit},
		{power(1, 1), 15811, 1, over(-999887640, 1), 0},
		{power(1, 1), 15812, 1, impl.Fraction{}, impl.ErrLimit},
		{power(1, 1), -15810, 1, over(-999887640, 1), 0},
		{power(1, 1), -15811, 1, impl.Fraction{}, impl.ErrLimit},
		{flip, 1 - part, 1, over(part, 1), 0},
		{flip, -part, 1, impl.Fraction{}, impl.ErrLimit},
		{flip, part, 1, over(1-part, 1), 0},
		{flip, -1, part - 1, over(part, part-1), 0},
		{flip, -1, part, impl.Fraction{}, impl.ErrLimit},
		{flip, part, part - 1, over(-1, part-1), 0},
		{flip, 1, part, over(part-1, part), 0},
		{flip, 1 - part, part, impl.Fraction{}, impl.ErrLimit},
		{turn, -part, 1, over(-1, part), 0},
		{turn, -1, part, over(-part, 1), 0},
		{turn, -2, 3, over(-3, 2), 0},
		{turn, part, part - 1, over(part-1, part), 0},
	}
	for _, c := range cases {
		value, code := impl.MoveFraction(c.m, over(c.num, c.den))
		if value != c.want || code != c.code {
			t.Errorf("MoveFraction(%v, %d / %d) = %v, %d; want %v, %d", c.m, c.num, c.den, value, code, c.want, c.code)
		}
	}
}

func remainderOf(x impl.Fraction) (int64, bool) {
	den := new(big.Int).ModInverse(big.NewInt(x.Den), big.NewInt(impl.FieldPrime))
	if den == nil {
		return 0, false
	}
	return remainder(x.Num*den.Int64(), impl.FieldPrime), true
}

// TestMovesAreForks compares values with those of forks (chapter 6) in the field of remainders.
func TestMovesAreForks(t *testing.T) {
	checked := 0
	for _, m := range allMoves()[2:] {
		fork, code := impl.ForkPolynomial(m.First, m.Last)
		if code != impl.ErrNone {
			continue
		}
		for _, x := range fractionsUpTo(12) {
			value, code := impl.MoveFraction(m, x)
			at, finite := remainderOf(x)
			if code != impl.ErrNone || !finite {
				continue
			}
			want, _ := impl.ValueOf(fork, at)
			if got, _ := remainderOf(value); got != want {
				t.Errorf("%v leads %v to %v, which is %d; the fork has the value %d", m, x, value, got, want)
			}
			checked++
		}
	}
	if checked < 1000 {
		t.Errorf("only %d values were compared", checked)
	}
}

// TestMovesUndoThemselves is the second part of the Guarantee.
func TestMovesUndoThemselves(t *testing.T) {
	s := source(14)
	all := slices.Concat(fractionsUpTo(20), greatFractions())
	for range 2000 {
		all = append(all, s.fraction(1000000000))
	}
	for kind := range int64(2) {
		undone, m := 0, impl.Move{Kind: kind}
		for _, x := range all {
			value, code := impl.MoveFraction(m, x)
			if code != impl.ErrNone && kind == 1 {
				t.Errorf("MoveFraction(%v, %v) = %d", m, x, code)
			}
			if code != impl.ErrNone {
				continue
			}
			undone++
			if back, code := impl.MoveFraction(m, value); back != x || code != impl.ErrNone {
				t.Errorf("%v leads %v to %v, and this to %v, %d", m, x, value, back, code)
			}
			if twice, code := impl.RunMoves([]impl.Move{m, m}, x); twice != x || code != impl.ErrNone {
				t.Errorf("%v, twice, leads %v to %v, %d", m, x, twice, code)
			}
		}
		if undone < len(all)/2 {
			t.Errorf("%v was undone for %d of %d fractions", m, undone, len(all))
		}
	}
}

func checkImage(t *testing.T, m impl.Move, list []impl.Fraction) int64 {
	t.Helper()
	want, wanted := imageByHand(m, list)
	given := withSpareItems(list, unit)
	image, code := impl.ImageOfSet(m, given)
	if !slices.Equal(image, want) || code != wanted || !isSetByHand(image) {
		t.Fatalf("ImageOfSet(%v, %v) = %v, %d; want %v, %d", m, list, image, code, want, wanted)
	}
	checkItemsKept(t, "ImageOfSet", given, list, unit)
	return code
}

func TestImageOfSet(t *testing.T) {
	counts := map[int64]int{}
	s := source(15)
	for i, list := range sampleSets() {
		for _, m := range []impl.Move{{Kind: 0}, {Kind: 1}, power(1, 1), power(2, 1), power(int64(1+s.below(4)), int64(1+s.below(4)))} {
			counts[checkImage(t, m, list)]++
		}
		if i%20 == 0 {
			counts[checkImage(t, power(int64(1+s.below(20)), int64(1+s.below(20))), list)]++
		}
	}
	if counts[impl.ErrNone] < 3000 || counts[impl.ErrLimit] < 500 {
		t.Errorf("images by their codes: %v", counts)
	}
}

func TestKnownImages(t *testing.T) {
	corners := []impl.Fraction{zero, unit, infinity}
	thirds := []impl.Fraction{over(-1, 3), zero, over(1, 3), over(2, 3), unit, over(4, 3), infinity}
	cases := []struct {
		m    impl.Move
		list []impl.Fraction
		want []impl.Fraction
	}{
		{impl.Move{Kind: 0}, corners, corners},
		{impl.Move{Kind: 1}, corners, corners},
		{power(1, 1), corners, []impl.Fraction{zero, infinity}},
		{power(1, 1), []impl.Fraction{zero, over(1, 2), unit}, []impl.Fraction{zero, unit}},
		{impl.Move{Kind: 0}, thirds, thirds},
		{impl.Move{Kind: 1}, thirds, []impl.Fraction{over(-3, 1), zero, over(3, 4), unit, over(3, 2), over(3, 1), infinity}},
		{power(1, 1), thirds, []impl.Fraction{over(-16, 9), zero, over(8, 9), infinity}},
		{power(1, 1), nil, nil},
		{impl.Move{Kind: 0}, []impl.Fraction{}, nil},
		{power(20, 20), []impl.Fraction{zero, over(1, 2), unit, infinity}, corners},
	}
	for _, c := range cases {
		if image, code := impl.ImageOfSet(c.m, c.list); !slices.Equal(image, c.want) || code != impl.ErrNone {
			t.Errorf("ImageOfSet(%v, %v) = %v, %d; want %v", c.m, c.list, image, code, c.want)
		}
	}
	for _, m := range []impl.Move{{Kind: 0}, {Kind: 1}, power(1, 2)} {
		checkOwnItems(t, "ImageOfSet", func() []impl.Fraction {
			image, _ := impl.ImageOfSet(m, thirds)
			return image
		}, over(77, 1))
	}
}

// TestOneGreatValueAlone has one fraction, at each place of a set, whose value is none.
func TestOneGreatValueAlone(t *testing.T) {
	for i := range int64(12) {
		var list []impl.Fraction
		for j := range int64(12) {
			x, _ := impl.FractionOf(j, 12)
			if j == i {
				x, _ = impl.FractionOf(j*83000000+1, 996000000)
			}
			list = append(list, x)
		}
		if image, code := impl.ImageOfSet(power(1, 1), list); len(image) != 0 || code != impl.ErrLimit {
			t.Errorf("ImageOfSet(%v) = %v, %d", list, image, code)
		}
		checkImage(t, power(1, 1), slices.Delete(slices.Clone(list), int(i), int(i)+1))
	}
}

func checkDegree(t *testing.T, list []impl.Move) int64 {
	t.Helper()
	product := big.NewInt(1)
	for _, m := range list {
		if m.Kind == 2 {
			product.Mul(product, big.NewInt(m.First+m.Last))
		}
	}
	want, wanted := int64(0), int64(impl.ErrLimit)
	if product.Cmp(big.NewInt(1000000000)) <= 0 {
		want, wanted = product.Int64(), impl.ErrNone
	}
	given := withSpareItems(list, power(2, 3))
	if degree, code := impl.DegreeOfMoves(given); degree != want || code != wanted {
		t.Fatalf("DegreeOfMoves(%v) = %d, %d; want %d, %d", list, degree, code, want, wanted)
	}
	checkItemsKept(t, "DegreeOfMoves", given, list, power(2, 3))
	return wanted
}

func TestDegreeOfMoves(t *testing.T) {
	counts := map[int64]int{}
	s := source(16)
	for _, m := range allMoves() {
		checkDegree(t, []impl.Move{m})
	}
	for count := range 21 {
		for range 100 {
			moves := s.moves(count, 1+s.below(20))
			counts[checkDegree(t, moves)]++
			for i := range moves {
				moves[i] = power(int64(1+s.below(10)), int64(1+s.below(i+1)))
			}
			counts[checkDegree(t, moves)]++
		}
	}
	if counts[impl.ErrNone] < 500 || counts[impl.ErrLimit] < 500 {
		t.Errorf("degrees by their codes: %v", counts)
	}
	tens := slices.Repeat([]impl.Move{power(3, 7)}, 9)
	cases := []struct {
		list []impl.Move
		want int64
		code int64
	}{
		{nil, 1, 0},
		{[]impl.Move{}, 1, 0},
		{slices.Repeat([]impl.Move{{Kind: 1}}, 20), 1, 0},
		{tens, 1000000000, 0},
		{append(slices.Clone(tens), slices.Repeat([]impl.Move{{Kind: 0}}, 11)...), 1000000000, 0},
		{append(slices.Clone(tens), power(1, 1)), 0, impl.ErrLimit},
		{append(slices.Clone(tens[1:]), power(5, 6)), 0, impl.ErrLimit},
		{slices.Repeat([]impl.Move{power(1, 1)}, 20), 1 << 20, 0},
		// The products 2^64 and 40^20 are 0 and less than 0 in 64 bits.
		{slices.Repeat([]impl.Move{power(8, 8)}, 16), 0, impl.ErrLimit},
		{slices.Repeat([]impl.Move{power(20, 20)}, 20), 0, impl.ErrLimit},
	}
	for _, c := range cases {
		if degree, code := impl.DegreeOfMoves(c.list); degree != c.want || code != c.code {
			t.Errorf("DegreeOfMoves(%v) = %d, %d; want %d, %d", c.list, degree, code, c.want, c.code)
		}
	}
}

func checkRun(t *testing.T, list []impl.Move, x impl.Fraction) int64 {
	t.Helper()
	want, wanted := x, int64(impl.ErrNone)
	for _, m := range list {
		if wanted == impl.ErrNone {
			want, wanted = moveByHand(m, want)
		}
	}
	given := withSpareItems(list, power(2, 3))
	if value, code := impl.RunMoves(given, x); value != want || code != wanted {
		t.Fatalf("RunMoves(%v, %v) = %v, %d; want %v, %d", list, x, value, code, want, wanted)
	}
	checkItemsKept(t, "RunMoves", given, list, power(2, 3))
	return wanted
}

func TestRunMoves(t *testing.T) {
	counts := map[int64]int{}
	s := source(17)
	few := fractionsUpTo(4)
	for count := range 21 {
		for range 60 {
			moves := s.moves(count, 1+s.below(20))
			counts[checkRun(t, moves, few[s.below(len(few))])]++
			counts[checkRun(t, moves[:min(3, count)], s.fraction(1000))]++
			for i := range moves {
				moves[i] = impl.Move{Kind: moves[i].Kind % 2}
			}
			counts[checkRun(t, moves, s.fraction(1000000000))]++
		}
	}
	if counts[impl.ErrNone] < 1000 || counts[impl.ErrLimit] < 1000 {
		t.Errorf("values by their codes: %v", counts)
	}
	// What comes behind a value that is no fraction does not bring it back.
	flip, turn := impl.Move{Kind: 0}, impl.Move{Kind: 1}
	for _, list := range [][]impl.Move{{flip}, {flip, flip}, {flip, turn}, {turn, turn, flip, flip}} {
		if value, code := impl.RunMoves(list, over(-part, 1)); value != (impl.Fraction{}) || code != impl.ErrLimit {
			t.Errorf("RunMoves(%v, %d) = %v, %d", list, -part, value, code)
		}
	}
	twenty := slices.Repeat([]impl.Move{flip, turn}, 10)
	if value, code := impl.RunMoves(twenty, over(2, 7)); value != over(7, 5) || code != impl.ErrNone {
		t.Errorf("twenty moves lead 2 / 7 to %v, %d", value, code)
	}
	if value, code := impl.RunMoves([]impl.Move{power(1, 1), power(2, 1), turn}, over(1, 4)); value != over(256, 243) || code != impl.ErrNone {
		t.Errorf("the value at 1 / 4 is %v, %d", value, code)
	}
	if value, code := impl.RunMoves(nil, infinity); value != infinity || code != impl.ErrNone {
		t.Errorf("no moves lead infinity to %v, %d", value, code)
	}
}

// forkDessin has the darts around its two black vertices, and White exchanges one of each.
func forkDessin(m, n int64) impl.Dessin {
	d := impl.Dessin{Darts: m + n, White: staying(m + n)}
	for x := range m + n {
		d.Black[x] = byte(x + 1)
	}
	d.Black[m-1], d.Black[m+n-1] = 0, byte(m)
	d.White[0], d.White[m] = byte(m), 0
	return d
}

// TestPassportsOfMoves has the last part of the Guarantee: they are passports of dessins of genus 0.
func TestPassportsOfMoves(t *testing.T) {
	for _, m := range allMoves()[2:] {
		passport, code := impl.PassportOfMove(m)
		if m.First+m.Last > 16 {
			if len(passport) != 0 || code != impl.ErrLimit {
				t.Errorf("PassportOfMove(%v) = %v, %d", m, passport, code)
			}
			continue
		}
		d := forkDessin(m.First, m.Last)
		want, dessinCode := impl.PassportOf(d)
		genus, genusCode := impl.GenusOf(d)
		if !sameLists(passport, want) || genus != 0 || code != impl.ErrNone || dessinCode != impl.ErrNone || genusCode != impl.ErrNone {
			t.Errorf("PassportOfMove(%v) = %v, %d; want %v, of genus %d", m, passport, code, want, genus)
		}
		fork, _ := impl.ForkPolynomial(m.First, m.Last)
		if shabat, code := impl.PassportOfShabat(fork, 0, 1); !sameLists(passport, shabat) || code != impl.ErrNone {
			t.Errorf("PassportOfMove(%v) = %v; its polynomial has %v, %d", m, passport, shabat, code)
		}
		checkOwnMemory(t, fmt.Sprint("PassportOfMove ", m), func() [][]int64 {
			passport, _ := impl.PassportOfMove(m)
			return passport
		})
	}
	for kind := range int64(2) {
		m := impl.Move{Kind: kind}
		passport, code := impl.PassportOfMove(m)
		if !sameLists(passport, [][]int64{{1}, {1}, {1}}) || code != impl.ErrNone {
			t.Errorf("PassportOfMove(%v) = %v, %d", m, passport, code)
		}
		checkOwnMemory(t, "PassportOfMove", func() [][]int64 {
			passport, _ := impl.PassportOfMove(m)
			return passport
		})
	}
}

func TestDessinsOfMoves(t *testing.T) {
	for _, m := range allMoves() {
		if m.First+m.Last > 7 {
			continue
		}
		passport, _ := impl.PassportOfMove(m)
		list, code := impl.DessinsOf(passport)
		if len(list) != 1 || code != impl.ErrNone {
			t.Fatalf("the dessins of %v are %v, %d", m, list, code)
		}
		if genus, _ := impl.GenusOf(list[0]); genus != 0 {
			t.Errorf("the dessin of %v has genus %d", m, genus)
		}
	}
}

func TestKnownPassportsOfMoves(t *testing.T) {
	cases := []struct {
		m    impl.Move
		want [][]int64
	}{
		{power(1, 1), [][]int64{{1, 1}, {2}, {2}}},
		{power(1, 2), [][]int64{{2, 1}, {2, 1}, {3}}},
		{power(2, 1), [][]int64{{2, 1}, {2, 1}, {3}}},
		{power(2, 2), [][]int64{{2, 2}, {2, 1, 1}, {4}}},
		{power(1, 4), [][]int64{{4, 1}, {2, 1, 1, 1}, {5}}},
		{power(15, 1), [][]int64{{15, 1}, {2, 1, 1, 1, 1, 1, 1, 1, 1, 1, 1, 1, 1, 1, 1}, {16}}},
	}
	for _, c := range cases {
		if passport, code := impl.PassportOfMove(c.m); !sameLists(passport, c.want) || code != impl.ErrNone {
			t.Errorf("PassportOfMove(%v) = %v, %d; want %v", c.m, passport, code, c.want)
		}
	}
	for _, m := range []impl.Move{power(16, 1), power(1, 16), power(9, 8), power(20, 20)} {
		if passport, code := impl.PassportOfMove(m); len(passport) != 0 || code != impl.ErrLimit {
			t.Errorf("PassportOfMove(%v) = %v, %d", m, passport, code)
		}
	}
}

func TestNoMovesOfFractions(t *testing.T) {
	check := func(m impl.Move, x impl.Fraction) {
		t.Helper()
		if value, code := impl.MoveFraction(m, x); value != (impl.Fraction{}) || code != impl.ErrInvalid {
			t.Errorf("MoveFraction(%v, %v) = %v, %d", m, x, value, code)
		}
		if value, code := impl.RunMoves([]impl.Move{m}, x); value != (impl.Fraction{}) || code != impl.ErrInvalid {
			t.Errorf("RunMoves(%v, %v) = %v, %d", m, x, value, code)
		}
		if image, code := impl.ImageOfSet(m, []impl.Fraction{x}); len(image) != 0 || code != impl.ErrInvalid {
			t.Errorf("ImageOfSet(%v, %v) = %v, %d", m, x, image, code)
		}
	}
	for _, m := range notMoves() {
		check(m, over(1, 2))
		check(m, infinity)
		check(m, over(2, 4))
		check(m, over(-part, 1))
		if image, code := impl.ImageOfSet(m, nil); len(image) != 0 || code != impl.ErrInvalid {
			t.Errorf("ImageOfSet(%v, nothing) = %v, %d", m, image, code)
		}
		if passport, code := impl.PassportOfMove(m); len(passport) != 0 || code != impl.ErrInvalid {
			t.Errorf("PassportOfMove(%v) = %v, %d", m, passport, code)
		}
	}
	for _, x := range notFractions() {
		for _, m := range []impl.Move{{Kind: 0}, {Kind: 1}, power(1, 1), power(20, 20)} {
			check(m, x)
		}
		if value, code := impl.RunMoves(nil, x); value != (impl.Fraction{}) || code != impl.ErrInvalid {
			t.Errorf("RunMoves(nothing, %v) = %v, %d", x, value, code)
		}
	}
	for name, list := range notSets() {
		for _, m := range []impl.Move{{Kind: 0}, {Kind: 1}, power(1, 1)} {
			if image, code := impl.ImageOfSet(m, list); len(image) != 0 || code != impl.ErrInvalid {
				t.Errorf("%s: ImageOfSet(%v) = %v, %d", name, m, image, code)
			}
		}
	}
}

func TestNoListsOfMoves(t *testing.T) {
	check := func(list []impl.Move, x impl.Fraction, want int64) {
		t.Helper()
		if degree, code := impl.DegreeOfMoves(list); degree != 0 || code != want {
			t.Errorf("DegreeOfMoves(%v) = %d, %d; want %d", list, degree, code, want)
		}
		if value, code := impl.RunMoves(list, x); value != (impl.Fraction{}) || code != want {
			t.Errorf("RunMoves(%v, %v) = %v, %d; want %d", list, x, value, code, want)
		}
	}
	for _, bad := range notMoves() {
		for _, count := range []int{1, 2, 20, 21, 40} {
			for _, i := range []int{0, count / 2, count - 1} {
				list := slices.Repeat([]impl.Move{power(20, 20)}, count)
				list[i] = bad
				check(list, over(1, 3), impl.ErrInvalid)
			}
		}
	}
	for _, count := range []int{21, 22, 256, 276, 1000} {
		check(slices.Repeat([]impl.Move{{Kind: 1}}, count), over(1, 3), impl.ErrRange)
		check(slices.Repeat([]impl.Move{power(20, 20)}, count), over(1, 3), impl.ErrRange)
	}
	// The fraction is looked at before the number of the moves.
	for _, x := range notFractions() {
		if value, code := impl.RunMoves(slices.Repeat([]impl.Move{{Kind: 1}}, 21), x); value != (impl.Fraction{}) || code != impl.ErrInvalid {
			t.Errorf("RunMoves(21 moves, %v) = %v, %d", x, value, code)
		}
	}
}
