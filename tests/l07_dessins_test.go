package tests

import (
	"math"
	"slices"
	"testing"

	"loop.example/g01200/impl"
)

func TestAlikeDessinsOfFewDarts(t *testing.T) {
	var few []impl.Dessin
	for n := int64(1); n <= 3; n++ {
		few = append(few, allDessins(n)...)
	}
	for _, d := range few {
		for _, e := range few {
			want := slices.ContainsFunc(allPlaces(d.Darts), func(p impl.Places) bool { return renamedByHand(d, p) == e })
			if yes, code := impl.AreAlike(d, e); yes != want || code != impl.ErrNone {
				t.Fatalf("AreAlike(%v, %v) = %v, %d", d, e, yes, code)
			}
		}
	}
}

func TestRenamedDessinsAreAlike(t *testing.T) {
	counts := map[bool]int{}
	sample := sampleDessins()
	for i, d := range sample {
		for _, p := range renamings(d) {
			e := renamedByHand(d, p)
			if yes, code := impl.AreAlike(d, e); !yes || code != impl.ErrNone {
				t.Fatalf("AreAlike(%v, %v) = %v, %d", d, e, yes, code)
			}
		}
		for _, e := range []impl.Dessin{sample[i*7919%len(sample)], mirrorByHand(d), exchangeByHand(d, 1), exchangeByHand(d, 4)} {
			want := alikeByHand(d, e)
			counts[want]++
			if yes, code := impl.AreAlike(d, e); yes != want || code != impl.ErrNone {
				t.Fatalf("AreAlike(%v, %v) = %v, %d", d, e, yes, code)
			}
		}
	}
	if counts[true] < 200 || counts[false] < 200 {
		t.Errorf("dessins that are tested with alike ones and with others: %v", counts)
	}
}

func TestKnownAlikeDessins(t *testing.T) {
	cases := []struct {
		d    string
		e    string
		want bool
	}{
		{"1|()|()", "1|()|()", true},
		{"1|()|()", "2|(0 1)|()", false},
		{"2|(0 1)|()", "2|()|(0 1)", false},
		{"2|(0 1)|(0 1)", "2|(0 1)|()", false},
		{"3|(0 1 2)|()", "3|(0 2 1)|()", true},
		{"3|(0 1 2)|(0 1 2)", "3|(0 1 2)|(0 2 1)", false},
		{"3|(0 1 2)|(0 2 1)", "3|(0 2 1)|(0 1 2)", true},
		{"3|(0 1)|(1 2)", "3|(1 2)|(0 1)", true},
		{"3|(0 1 2)|(0 1)", "3|(0 2 1)|(0 1)", true},
		{"3|(0 1 2)|(0 1)", "3|(0 1)|(0 1 2)", false},
		// two dessins with the same passport, and stars with more and with fewer darts
		{"5|(1 2)(3 4)|(0 1 2 3)", "5|(1 2)(3 4)|(0 1 3 4)", false},
		{"4|(0 1 2 3)|()", "8|(0 1 2 3 4 5 6 7)|()", false},
		{"16|(0 1 2 3 4 5 6 7 8 9 10 11 12 13 14 15)|()", "15|(0 1 2 3 4 5 6 7 8 9 10 11 12 13 14)|()", false},
	}
	for _, c := range cases {
		d, e := mustParse(t, c.d), mustParse(t, c.e)
		if yes, code := impl.AreAlike(d, e); yes != c.want || code != impl.ErrNone {
			t.Errorf("AreAlike(%s, %s) = %v, %d", c.d, c.e, yes, code)
		}
		if yes, code := impl.AreAlike(e, d); yes != c.want || code != impl.ErrNone {
			t.Errorf("AreAlike(%s, %s) = %v, %d", c.e, c.d, yes, code)
		}
	}
}

func TestExchangeOf(t *testing.T) {
	for _, d := range sampleDessins() {
		for k := range 6 {
			e, code := impl.ExchangeOf(d, int64(k))
			if e != exchangeByHand(d, k) || code != impl.ErrNone || !impl.IsDessin(e) {
				t.Fatalf("ExchangeOf(%v, %d) = %v, %d", d, k, e, code)
			}
		}
	}
	torus := []string{"5|(0 1 2 3 4)|(0 1 2)", "5|(0 1 2)|(0 1 2 3 4)", "5|(0 1 2)|(0 1 4 3 2)", "5|(0 1 4 3 2)|(0 1 2 3 4)", "5|(0 1 2 3 4)|(0 1 4 3 2)", "5|(0 1 4 3 2)|(0 1 2)"}
	for k, text := range torus {
		if e, code := impl.ExchangeOf(mustParse(t, torus[0]), int64(k)); e != mustParse(t, text) || code != impl.ErrNone {
			t.Errorf("ExchangeOf(%s, %d) = %v, %d", torus[0], k, e, code)
		}
	}
}

func TestExchangesOutOfRange(t *testing.T) {
	for n := int64(1); n <= 16; n++ {
		star, _ := impl.StarDessin(n)
		for _, k := range notTurnNumbers() {
			if e, code := impl.ExchangeOf(star, k); e != (impl.Dessin{}) || code != impl.ErrRange {
				t.Errorf("ExchangeOf(star of %d, %d) = %v, %d", n, k, e, code)
			}
		}
	}
}

// notTurnNumbers are numbers of no exchange and of no operation.
func notTurnNumbers() []int64 {
	return []int64{-1, 6, 7, -6, 255, 256, 1 << 32, 1<<32 + 1, math.MinInt64, math.MaxInt64}
}

// TestExchangesOfExchanges: with the types of its permutations exchanged, too, a dessin has the
// genus that it had, and two exchanges make what one makes.
func TestExchangesOfExchanges(t *testing.T) {
	letters := exchangeLetters()
	for i, d := range sampleDessins() {
		if i%3 != 0 {
			continue
		}
		types := map[rune][]int64{'B': typeByHand(d.Black, d.Darts), 'W': typeByHand(d.White, d.Darts), 'F': typeByHand(faceByHand(d), d.Darts)}
		for k := range 6 {
			e, _ := impl.ExchangeOf(d, int64(k))
			var want [][]int64
			for _, letter := range letters[k] {
				want = append(want, types[letter])
			}
			if passport, code := impl.PassportOf(e); !sameLists(passport, want) || code != impl.ErrNone {
				t.Fatalf("PassportOf(exchange %d of %v) = %v, %d", k, d, passport, code)
			}
			if genus, code := impl.GenusOf(e); genus != genusByHand(d) || code != impl.ErrNone {
				t.Fatalf("GenusOf(exchange %d of %v) = %d, %d", k, d, genus, code)
			}
			for j := range 6 {
				twice, _ := impl.ExchangeOf(e, int64(j))
				once, _ := impl.ExchangeOf(d, int64(bothTurned(letters, k, j)))
				if yes, code := impl.AreAlike(twice, once); !yes || code != impl.ErrNone {
					t.Fatalf("exchange %d of exchange %d of %v is %v", j, k, d, twice)
				}
			}
		}
	}
}

// TestExchangesKeepTheOrderOfTheGroup is promise 16.
func TestExchangesKeepTheOrderOfTheGroup(t *testing.T) {
	for _, d := range groupDessins(t) {
		want := orderOfDessin(d)
		if order, code := impl.GroupOrder(d); order != want || code != impl.ErrNone {
			t.Fatalf("GroupOrder(%v) = %d, %d, not %d", d, order, code, want)
		}
		for k := range int64(6) {
			e, code := impl.ExchangeOf(d, k)
			if code != impl.ErrNone || orderOfDessin(e) != want {
				t.Fatalf("ExchangeOf(%v, %d) = %v, %d has another group", d, k, e, code)
			}
			if order, code := impl.GroupOrder(e); order != want || code != impl.ErrNone {
				t.Fatalf("GroupOrder(exchange %d of %v) = %d, %d, not %d", k, d, order, code, want)
			}
		}
	}
}

func TestMirrorOf(t *testing.T) {
	for _, d := range sampleDessins() {
		e, code := impl.MirrorOf(d)
		if e != mirrorByHand(d) || code != impl.ErrNone {
			t.Fatalf("MirrorOf(%v) = %v, %d", d, e, code)
		}
		if back, code := impl.MirrorOf(e); back != d || code != impl.ErrNone {
			t.Fatalf("MirrorOf(%v) = %v, %d, not %v", e, back, code, d)
		}
	}
	for text, want := range map[string]string{
		"1|()|()": "1|()|()", "4|(1 2)|(0 1)(2 3)": "4|(1 2)|(0 1)(2 3)", "3|(0 1 2)|(0 1)": "3|(0 2 1)|(0 1)",
		"5|(0 1 2 3 4)|(0 1 2)": "5|(0 4 3 2 1)|(0 2 1)", "5|(1 2)(3 4)|(0 1 2 3)": "5|(1 2)(3 4)|(0 3 2 1)",
	} {
		if e, code := impl.MirrorOf(mustParse(t, text)); e != mustParse(t, want) || code != impl.ErrNone {
			t.Errorf("MirrorOf(%s) = %v, %d", text, e, code)
		}
	}
}

func TestIsChiral(t *testing.T) {
	counts := map[bool]int{}
	for _, d := range sampleDessins() {
		want := !alikeByHand(d, mirrorByHand(d))
		counts[want]++
		for _, e := range []impl.Dessin{d, withOtherNames(d), mirrorByHand(d)} {
			if yes, code := impl.IsChiral(e); yes != want || code != impl.ErrNone {
				t.Fatalf("IsChiral(%v) = %v, %d", e, yes, code)
			}
		}
	}
	if counts[true] < 100 || counts[false] < 100 {
		t.Errorf("chiral dessins and others that are tested: %v", counts)
	}
	for text, want := range map[string]bool{
		"1|()|()": false, "3|(0 1 2)|(0 1)": false, "5|(1 2)(3 4)|(0 1 2 3)": true, "5|(1 2 3 4)|(0 1)(3 4)": true,
		"5|(1 2 3 4)|(0 1 2 4)": true, "6|(2 3)(4 5)|(0 1 2 3 4)": true, "7|(0 1 2 3 4 5 6)|(0 2 4 6 1 3 5)": false,
		// trees with arms of 1, 3 and 2 edges, of 1, 2 and 3, and of 1, 2 and 2
		"6|(0 1 2)(3 4)|(1 3)(2 5)": true, "6|(0 1 3)(4 5)|(1 2)(3 4)": true, "5|(0 1 2)|(1 3)(2 4)": false,
	} {
		if yes, code := impl.IsChiral(mustParse(t, text)); yes != want || code != impl.ErrNone {
			t.Errorf("IsChiral(%s) = %v, %d", text, yes, code)
		}
	}
	for n := int64(1); n <= 16; n++ {
		star, _ := impl.StarDessin(n)
		chain, _ := impl.ChainDessin(n)
		band, _ := impl.BandDessin(n)
		for _, d := range []impl.Dessin{star, chain, band} {
			if yes, code := impl.IsChiral(d); yes || code != impl.ErrNone {
				t.Errorf("IsChiral(%v) = %v, %d", d, yes, code)
			}
		}
	}
}

// TestNumbersOfChiralDessins: they were counted with another program.
func TestNumbersOfChiralDessins(t *testing.T) {
	for i, want := range []int{0, 0, 0, 0, 12, 268} {
		n := int64(i + 1)
		types, _ := impl.TypesOf(n)
		chiral := 0
		for _, black := range types {
			for _, white := range types {
				for _, round := range types {
					list, _ := impl.DessinsOf([][]int64{black, white, round})
					for _, d := range list {
						if yes, _ := impl.IsChiral(d); yes {
							chiral++
						}
					}
				}
			}
		}
		if chiral != want {
			t.Errorf("%d chiral dessins of %d darts, not %d", chiral, n, want)
		}
	}
}

func TestSubdividedOf(t *testing.T) {
	for _, d := range sampleDessins() {
		e, code := impl.SubdividedOf(d)
		if d.Darts > 8 {
			if e != (impl.Dessin{}) || code != impl.ErrLimit {
				t.Fatalf("SubdividedOf(%v) = %v, %d", d, e, code)
			}
			continue
		}
		if e != subdividedByHand(d) || code != impl.ErrNone || !impl.IsDessin(e) {
			t.Fatalf("SubdividedOf(%v) = %v, %d", d, e, code)
		}
	}
	for text, want := range map[string]string{
		"1|()|()":           "2|()|(0 1)",
		"2|(0 1)|()":        "4|(0 1)|(0 2)(1 3)",
		"2|()|(0 1)":        "4|(2 3)|(0 2)(1 3)",
		"3|(0 1 2)|(0 2 1)": "6|(0 1 2)(3 5 4)|(0 3)(1 4)(2 5)",
	} {
		if e, code := impl.SubdividedOf(mustParse(t, text)); e != mustParse(t, want) || code != impl.ErrNone {
			t.Errorf("SubdividedOf(%s) = %v, %d", text, e, code)
		}
	}
	for n := int64(1); n <= 16; n++ {
		want := int64(impl.ErrNone)
		if n > 8 {
			want = impl.ErrLimit
		}
		for _, build := range []func(int64) (impl.Dessin, int64){impl.StarDessin, impl.ChainDessin, impl.BandDessin} {
			d, _ := build(n)
			if e, code := impl.SubdividedOf(d); code != want || (e == impl.Dessin{}) != (n > 8) {
				t.Errorf("SubdividedOf(%v) = %v, %d", d, e, code)
			}
		}
	}
}

func TestIsClean(t *testing.T) {
	counts := map[bool]int{}
	for _, d := range append(sampleDessins(), sampleMaps(t)...) {
		want := isCleanByHand(d)
		counts[want]++
		if yes, code := impl.IsClean(d); yes != want || code != impl.ErrNone {
			t.Fatalf("IsClean(%v) = %v, %d", d, yes, code)
		}
	}
	if counts[true] < 200 || counts[false] < 200 {
		t.Errorf("maps and others that are tested: %v", counts)
	}
	for text, want := range map[string]bool{
		"1|()|()": false, "2|()|(0 1)": true, "2|(0 1)|()": false, "2|(0 1)|(0 1)": true, "3|(1 2)|(0 1)": false, "4|(1 2)|(0 1)(2 3)": true,
		"4|(0 1 2 3)|(0 1)": false, "4|(0 1 2 3)|(2 3)": false, "4|(0 1)(2 3)|(0 1 2 3)": false, "6|(0 1 2 3 4 5)|(0 1)(2 3 4 5)": false, "6|(0 1 2 3 4 5)|(0 1 2)(3 4 5)": false,
	} {
		if yes, code := impl.IsClean(mustParse(t, text)); yes != want || code != impl.ErrNone {
			t.Errorf("IsClean(%s) = %v, %d", text, yes, code)
		}
	}
}

// TestMirrorImagesAndSubdividedDessinsKeepTheGenus is promise 18.
func TestMirrorImagesAndSubdividedDessinsKeepTheGenus(t *testing.T) {
	genera := map[int64]int{}
	for _, d := range sampleDessins() {
		want := genusByHand(d)
		mirror, code := impl.MirrorOf(d)
		if genus, bad := impl.GenusOf(mirror); genus != want || bad != impl.ErrNone || code != impl.ErrNone {
			t.Fatalf("GenusOf(mirror image of %v) = %d, %d", d, genus, bad)
		}
		passport, _ := impl.PassportOf(d)
		if other, bad := impl.PassportOf(mirror); !sameLists(other, passport) || bad != impl.ErrNone {
			t.Fatalf("PassportOf(mirror image of %v) = %v, %d", d, other, bad)
		}
		if d.Darts > 8 {
			continue
		}
		genera[want]++
		divided, code := impl.SubdividedOf(d)
		if genus, bad := impl.GenusOf(divided); genus != want || bad != impl.ErrNone || code != impl.ErrNone {
			t.Fatalf("GenusOf(subdivided %v) = %d, %d", d, genus, bad)
		}
		if yes, bad := impl.IsClean(divided); !yes || bad != impl.ErrNone {
			t.Fatalf("IsClean(subdivided %v) = %v, %d", d, yes, bad)
		}
	}
	if len(genera) < 4 || genera[0] < 50 || genera[1] < 50 {
		t.Errorf("genera of the dessins that are subdivided: %v", genera)
	}
}

// TestEqualCanonicalWordsTellAlike is the first half of promise 17.
func TestEqualCanonicalWordsTellAlike(t *testing.T) {
	counts := map[bool]int{}
	trees := sampleTrees()
	for i, d := range trees {
		word, _ := impl.CanonicalWord(d)
		least, _ := impl.TreeOfWord(word)
		if yes, code := impl.AreAlike(d, least); !yes || code != impl.ErrNone {
			t.Fatalf("AreAlike(%v, tree of %q) = %v, %d", d, word, yes, code)
		}
		for _, e := range []impl.Dessin{trees[i*7919%len(trees)], trees[(i+1)%len(trees)], mirrorByHand(d)} {
			other, _ := impl.CanonicalWord(e)
			counts[word == other]++
			if yes, code := impl.AreAlike(d, e); yes != (word == other) || code != impl.ErrNone {
				t.Fatalf("AreAlike(%v, %v) = %v, %d, with the words %q and %q", d, e, yes, code, word, other)
			}
		}
	}
	if counts[true] < 200 || counts[false] < 200 {
		t.Errorf("trees that are tested with alike ones and with others: %v", counts)
	}
}

// TestSymmetriesCountAlikeWords is the second half of promise 17: alike trees have, all together,
// as many words as their edges divided by their symmetry.
func TestSymmetriesCountAlikeWords(t *testing.T) {
	for n := 1; n <= 6; n++ {
		trees := map[string]impl.Dessin{}
		for _, word := range wordsByHand(n) {
			trees[word], _ = impl.TreeOfWord(word)
		}
		for word, d := range trees {
			count := int64(0)
			for _, e := range trees {
				if yes, _ := impl.AreAlike(d, e); yes {
					count++
				}
			}
			if symmetry, code := impl.SymmetryOf(d); count*symmetry != int64(n) || code != impl.ErrNone {
				t.Errorf("SymmetryOf(tree of %q) = %d, %d, and %d words tell alike trees", word, symmetry, code, count)
			}
		}
	}
}

func TestTurnsOfNoDessins(t *testing.T) {
	star, _ := impl.StarDessin(3)
	for name, d := range notDessins() {
		for _, c := range [][2]impl.Dessin{{d, d}, {d, star}, {star, d}} {
			if yes, code := impl.AreAlike(c[0], c[1]); yes || code != impl.ErrInvalid {
				t.Errorf("%s: AreAlike = %v, %d", name, yes, code)
			}
		}
		for _, k := range append(notTurnNumbers(), 0, 1, 2, 3, 4, 5) {
			if e, code := impl.ExchangeOf(d, k); e != (impl.Dessin{}) || code != impl.ErrInvalid {
				t.Errorf("%s: ExchangeOf = %v, %d", name, e, code)
			}
		}
		for _, turn := range []func(impl.Dessin) (impl.Dessin, int64){impl.MirrorOf, impl.SubdividedOf} {
			if e, code := turn(d); e != (impl.Dessin{}) || code != impl.ErrInvalid {
				t.Errorf("%s: MirrorOf or SubdividedOf = %v, %d", name, e, code)
			}
		}
		for _, ask := range []func(impl.Dessin) (bool, int64){impl.IsChiral, impl.IsClean} {
			if yes, code := ask(d); yes || code != impl.ErrInvalid {
				t.Errorf("%s: IsChiral or IsClean = %v, %d", name, yes, code)
			}
		}
		if f, code := impl.FlagsOf(d); f != (impl.Flags{}) || code != impl.ErrInvalid {
			t.Errorf("%s: FlagsOf = %v, %d", name, f, code)
		}
	}
}
