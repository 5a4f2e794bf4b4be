package tests

import (
	"math"
	"slices"
	"testing"

	"loop.example/g01200/impl"
)

func TestDessinsOf(t *testing.T) {
	for n := int64(1); n <= 6; n++ {
		tallies := talliesByHand(n, 1, true)
		for _, passport := range passportsByHand(n) {
			want := sortedDessins(tallies[passportKey(passport)].forms)
			given := withSpareNumbers(passport)
			if list, code := impl.DessinsOf(given); !slices.Equal(list, want) || code != impl.ErrNone {
				t.Fatalf("DessinsOf(%v) = %v, %d, not %v", passport, list, code, want)
			}
			checkKept(t, "DessinsOf", given, passport)
		}
	}
}

// TestDessinsOfAPassportHaveIt: they are canonical and ascend, so that none is isomorphic to another
// one, and the connected pairs are as many as their automorphisms tell, so that none is missing.
func TestDessinsOfAPassportHaveIt(t *testing.T) {
	told := 0
	for n := int64(1); n <= 8; n++ {
		for _, passport := range samplePassports(n, 300) {
			told += checkDessinsOf(t, passport)
		}
	}
	if told < 1500 {
		t.Errorf("only %d dessins are told", told)
	}
}

func checkDessinsOf(t *testing.T, passport [][]int64) int {
	t.Helper()
	list, code := impl.DessinsOf(passport)
	if code != impl.ErrNone {
		t.Fatalf("DessinsOf(%v): code %d", passport, code)
	}
	pairs, n := int64(0), sumByHand(passport[0])
	for i, d := range list {
		if found, code := impl.PassportOf(d); !sameLists(found, passport) || code != impl.ErrNone {
			t.Fatalf("PassportOf(%v) = %v, %d, and it is one of %v", d, found, code, passport)
		}
		if canonicalByHand(d) != d {
			t.Fatalf("%v of %v is not canonical", d, passport)
		}
		if i > 0 && slices.Compare(listOfDessin(list[i-1]), listOfDessin(d)) >= 0 {
			t.Fatalf("DessinsOf(%v) do not ascend at %d: %v", passport, i, list)
		}
		pairs += factorialByHand(n) / int64(len(isomorphismsByHand(d, d)))
	}
	if connected, code := impl.CountConnected(passport); connected != pairs || code != impl.ErrNone {
		t.Fatalf("CountConnected(%v) = %d, %d, and the dessins tell %d", passport, connected, code, pairs)
	}
	return len(list)
}

func sumByHand(list []int64) int64 {
	sum := int64(0)
	for _, x := range list {
		sum += x
	}
	return sum
}

func TestDessinsOfKnownPassports(t *testing.T) {
	cases := []struct {
		passport [][]int64
		want     []string
	}{
		{[][]int64{{1}, {1}, {1}}, []string{"1|()|()"}},
		{[][]int64{{1, 1}, {1, 1}, {1, 1}}, nil},
		{[][]int64{{1, 1}, {2}, {2}}, []string{"2|()|(0 1)"}},
		{[][]int64{{2}, {2}, {2}}, nil},
		{[][]int64{{3}, {1, 1, 1}, {3}}, []string{"3|(0 1 2)|()"}},
		{[][]int64{{3}, {3}, {1, 1, 1}}, []string{"3|(0 1 2)|(0 2 1)"}},
		{[][]int64{{3}, {3}, {3}}, []string{"3|(0 1 2)|(0 1 2)"}},
		{[][]int64{{2, 1}, {2, 1}, {3}}, []string{"3|(1 2)|(0 1)"}},
		{[][]int64{{2, 1}, {2, 1}, {2, 1}}, nil},
		{[][]int64{{2, 2}, {2, 2}, {2, 2}}, []string{"4|(0 1)(2 3)|(0 2)(1 3)"}},
		{[][]int64{{2, 1, 1}, {2, 1, 1}, {2, 2}}, nil},
		{[][]int64{{8}, ones(8), {8}}, []string{"8|(0 1 2 3 4 5 6 7)|()"}},
		{[][]int64{ones(8), {8}, {8}}, []string{"8|()|(0 1 2 3 4 5 6 7)"}},
	}
	for _, c := range cases {
		var want []impl.Dessin
		for _, text := range c.want {
			want = append(want, mustParse(t, text))
		}
		if list, code := impl.DessinsOf(c.passport); !slices.Equal(list, want) || code != impl.ErrNone {
			t.Errorf("DessinsOf(%v) = %v, %d", c.passport, list, code)
		}
	}
	counts := []struct {
		passport [][]int64
		want     int
	}{
		{[][]int64{{5}, {5}, {5}}, 4},
		{[][]int64{{4, 1}, {3, 2}, {3, 1, 1}}, 2},
		{[][]int64{{7, 1}, {7, 1}, {7, 1}}, 200},
		{[][]int64{{8}, {8}, {8}}, 0},
		{[][]int64{{4, 2, 1}, {3, 2, 2}, {3, 3, 1}}, 3},
		{[][]int64{{3, 3, 2}, {4, 2, 2}, {5, 2, 1}}, 0},
	}
	for _, c := range counts {
		if list, code := impl.DessinsOf(c.passport); len(list) != c.want || code != impl.ErrNone {
			t.Errorf("DessinsOf(%v) has %d dessins, code %d", c.passport, len(list), code)
		}
	}
}

// TestEachDessinIsOneOfItsPassport takes dessins at random, and the canonical ones of them.
func TestEachDessinIsOneOfItsPassport(t *testing.T) {
	s := source(4)
	for range 400 {
		n := int64(1 + s.below(8))
		d := impl.Dessin{Darts: n, Black: s.places(n), White: s.places(n)}
		if !joinsAll(d) {
			continue
		}
		passport, _ := impl.PassportOf(d)
		least, _ := impl.CanonicalDessin(d)
		if list, code := impl.DessinsOf(passport); !slices.Contains(list, least) || code != impl.ErrNone {
			t.Fatalf("DessinsOf(%v) = %v, %d, without %v", passport, list, code, least)
		}
	}
}

// TestNumbersOfAllDessins: they are as many as classes of subgroups of the free group.
func TestNumbersOfAllDessins(t *testing.T) {
	for i, want := range []int{1, 3, 7, 26, 97, 624, 4163} {
		sum := 0
		for _, passport := range passportsByHand(int64(i) + 1) {
			list, _ := impl.DessinsOf(passport)
			sum += len(list)
		}
		if sum != want {
			t.Errorf("there are %d dessins with %d darts by their passports", sum, i+1)
		}
	}
}

func TestDessinsOfRefuse(t *testing.T) {
	for name, passport := range notPassports() {
		if list, code := impl.DessinsOf(passport); len(list) != 0 || code != impl.ErrInvalid {
			t.Errorf("%s: DessinsOf(%v) = %v, %d", name, passport, list, code)
		}
	}
	for _, passport := range largePassports() {
		if list, code := impl.DessinsOf(passport); len(list) != 0 || code != impl.ErrRange {
			t.Errorf("DessinsOf(%v) = %v, %d", passport, list, code)
		}
		if list, code := impl.DessinsOf(passport[:2]); len(list) != 0 || code != impl.ErrInvalid {
			t.Errorf("DessinsOf(%v) = %v, %d", passport[:2], list, code)
		}
	}
}

func TestAllDessins(t *testing.T) {
	for n := int64(1); n <= 5; n++ {
		forms := map[impl.Dessin]bool{}
		for _, d := range allDessins(n) {
			forms[canonicalByHand(d)] = true
		}
		if all, code := impl.AllDessins(n); !slices.Equal(all, sortedDessins(forms)) || code != impl.ErrNone {
			t.Errorf("AllDessins(%d) = %v, %d", n, all, code)
		}
	}
	known := map[int64][]string{
		1: {"1|()|()"},
		2: {"2|()|(0 1)", "2|(0 1)|()", "2|(0 1)|(0 1)"},
		3: {"3|()|(0 1 2)", "3|(1 2)|(0 1)", "3|(1 2)|(0 1 2)", "3|(0 1 2)|()", "3|(0 1 2)|(1 2)", "3|(0 1 2)|(0 1 2)", "3|(0 1 2)|(0 2 1)"},
	}
	for n, want := range known {
		all, code := impl.AllDessins(n)
		var texts []string
		for _, d := range all {
			text, _ := impl.DessinText(d)
			texts = append(texts, text)
		}
		if !slices.Equal(texts, want) || code != impl.ErrNone {
			t.Errorf("AllDessins(%d) = %v, %d", n, texts, code)
		}
	}
	for _, n := range []int64{0, -1, 6, 8, 16, 256 + 3, 1<<32 + 3, math.MinInt64, math.MaxInt64} {
		if all, code := impl.AllDessins(n); len(all) != 0 || code != impl.ErrRange {
			t.Errorf("AllDessins(%d) = %v, %d", n, all, code)
		}
	}
}

func TestListsOfDessinsAreNewMemory(t *testing.T) {
	passport := [][]int64{{5}, {5}, {5}}
	lists := map[string]func() []impl.Dessin{
		"DessinsOf":  func() []impl.Dessin { list, _ := impl.DessinsOf(passport); return list },
		"AllDessins": func() []impl.Dessin { list, _ := impl.AllDessins(4); return list },
	}
	for name, told := range lists {
		list := told()
		want := slices.Clone(list)
		clear(list[:cap(list)])
		if again := told(); len(want) < 2 || !slices.Equal(again, want) {
			t.Errorf("%s: %v, and then %v", name, want, again)
		}
	}
}

func TestPassportsOf(t *testing.T) {
	for n := int64(1); n <= 5; n++ {
		byGenus := map[int64][][][]int64{}
		for _, d := range allDessins(n) {
			passport := [][]int64{typeByHand(d.Black, n), typeByHand(d.White, n), typeByHand(faceByHand(d), n)}
			genus := 1 - eulerByHand(d)/2
			byGenus[genus] = append(byGenus[genus], passport)
		}
		for g := range n + 1 {
			want := byGenus[g]
			slices.SortFunc(want, comparePassports)
			want = slices.CompactFunc(want, sameLists)
			if passports, code := impl.PassportsOf(n, g); !slices.EqualFunc(passports, want, sameLists) || code != impl.ErrNone {
				t.Errorf("PassportsOf(%d, %d) = %v, %d, not %v", n, g, passports, code, want)
			}
		}
	}
}

func comparePassports(a, b [][]int64) int {
	for i := range a {
		if order := slices.Compare(a[i], b[i]); order != 0 {
			return order
		}
	}
	return 0
}

// TestPassportsOfAreThoseWithDessins: among all passports in their order, those with the Euler
// number of the genus and at least one dessin.
func TestPassportsOfAreThoseWithDessins(t *testing.T) {
	for n := int64(1); n <= 5; n++ {
		for g := range int64(4) {
			var want [][][]int64
			for _, passport := range passportsByHand(n) {
				euler, _ := impl.EulerOfPassport(passport)
				if list, _ := impl.DessinsOf(passport); euler == 2-2*g && len(list) > 0 {
					want = append(want, passport)
				}
			}
			if passports, code := impl.PassportsOf(n, g); !slices.EqualFunc(passports, want, sameLists) || code != impl.ErrNone {
				t.Errorf("PassportsOf(%d, %d) = %v, %d, not %v", n, g, passports, code, want)
			}
		}
	}
}

func TestPassportsOfKnownGenera(t *testing.T) {
	cases := []struct {
		n, g int64
		want [][][]int64
	}{
		{1, 0, [][][]int64{{{1}, {1}, {1}}}},
		{1, 1, nil},
		{2, 0, [][][]int64{{{1, 1}, {2}, {2}}, {{2}, {1, 1}, {2}}, {{2}, {2}, {1, 1}}}},
		{2, 1, nil},
		{3, 0, [][][]int64{
			{{1, 1, 1}, {3}, {3}}, {{2, 1}, {2, 1}, {3}}, {{2, 1}, {3}, {2, 1}},
			{{3}, {1, 1, 1}, {3}}, {{3}, {2, 1}, {2, 1}}, {{3}, {3}, {1, 1, 1}},
		}},
		{3, 1, [][][]int64{{{3}, {3}, {3}}}},
		{4, 1, [][][]int64{
			{{2, 2}, {4}, {4}}, {{3, 1}, {4}, {4}}, {{4}, {2, 2}, {4}}, {{4}, {3, 1}, {4}}, {{4}, {4}, {2, 2}}, {{4}, {4}, {3, 1}},
		}},
		{5, 2, [][][]int64{{{5}, {5}, {5}}}},
		{5, 3, nil},
		{5, math.MaxInt64, nil},
		{5, math.MaxInt64 / 2, nil},
		{5, 1 << 62, nil},
		{5, 1<<62 + 1, nil},
		{5, 1 << 63 / 2, nil},
		{4, 1 << 32, nil},
	}
	for _, c := range cases {
		if passports, code := impl.PassportsOf(c.n, c.g); !slices.EqualFunc(passports, c.want, sameLists) || code != impl.ErrNone {
			t.Errorf("PassportsOf(%d, %d) = %v, %d", c.n, c.g, passports, code)
		}
	}
}

func TestPassportsOfRefuses(t *testing.T) {
	extremes := []int64{-1, math.MinInt64, math.MaxInt64, 1 << 32, 6, 0}
	for _, n := range extremes {
		for _, g := range extremes {
			if passports, code := impl.PassportsOf(n, g); len(passports) != 0 || code != impl.ErrRange {
				t.Errorf("PassportsOf(%d, %d) = %v, %d", n, g, passports, code)
			}
		}
	}
	for n := int64(1); n <= 5; n++ {
		for _, g := range []int64{-1, -2, math.MinInt64, math.MinInt64 + 1} {
			if passports, code := impl.PassportsOf(n, g); len(passports) != 0 || code != impl.ErrRange {
				t.Errorf("PassportsOf(%d, %d) = %v, %d", n, g, passports, code)
			}
		}
	}
}

func TestPassportsOfAreNewMemory(t *testing.T) {
	for g := range int64(2) {
		checkOwnMemory(t, "PassportsOf", func() [][]int64 {
			passports, _ := impl.PassportsOf(5, g)
			return slices.Concat(passports...)
		})
		passports, _ := impl.PassportsOf(5, g)
		want, _ := impl.PassportsOf(5, g)
		for i := range passports {
			wide := passports[i][:cap(passports[i])]
			clear(wide)
			if !slices.EqualFunc(passports[i+1:], want[i+1:], sameLists) {
				t.Errorf("PassportsOf(5, %d): passports share memory", g)
			}
		}
	}
}

// TestPassportsOfTreesHaveTreesAlone: with one face and the genus 0 there are n + 1 vertices, and
// for all types with so many there is a tree.
func TestPassportsOfTreesHaveTreesAlone(t *testing.T) {
	for n := int64(1); n <= 8; n++ {
		for _, black := range descendingLists(n) {
			for _, white := range descendingLists(n) {
				passport := [][]int64{black, white, {n}}
				euler, _ := impl.EulerOfPassport(passport)
				isOfTrees := int64(len(black)+len(white)) == n+1
				if (euler == 2) != isOfTrees {
					t.Fatalf("EulerOfPassport(%v) = %d", passport, euler)
				}
				if isOfTrees {
					checkTrees(t, passport)
				}
			}
		}
	}
}

// checkTrees also counts the roots of the trees.
func checkTrees(t *testing.T, passport [][]int64) {
	t.Helper()
	list, code := impl.DessinsOf(passport)
	if len(list) == 0 || code != impl.ErrNone {
		t.Fatalf("DessinsOf(%v) = %v, %d", passport, list, code)
	}
	roots := int64(0)
	for _, d := range list {
		genus, _ := impl.GenusOf(d)
		vertices := len(cyclesByHand(d.Black, d.Darts)) + len(cyclesByHand(d.White, d.Darts))
		if genus != 0 || len(cyclesByHand(faceByHand(d), d.Darts)) != 1 || int64(vertices) != d.Darts+1 {
			t.Errorf("%v of %v is no tree", d, passport)
		}
		roots += d.Darts / int64(len(isomorphismsByHand(d, d)))
	}
	if want := rootedTrees(passport[0], passport[1]); roots != want {
		t.Errorf("DessinsOf(%v) are %d rooted trees, not %d", passport, roots, want)
	}
}

// TestPassportsOfKnownPolynomials: those of x^n, of Chebyshev's polynomials, and of x^m (1 - x)^k
// are told where the genus is 0, and stars, chains and their like are trees of them.
func TestPassportsOfKnownPolynomials(t *testing.T) {
	for n := int64(1); n <= 5; n++ {
		passports, _ := impl.PassportsOf(n, 0)
		chainOf := func(first int64) []int64 {
			return slices.Concat(slices.Repeat([]int64{2}, int((n-first)/2)), ones(int(first+(n-first)%2)))
		}
		told := [][][]int64{{{n}, ones(int(n)), {n}}, {chainOf(1), chainOf(0), {n}}}
		for m := int64(1); m < n; m++ {
			fork := []int64{max(m, n-m), min(m, n-m)}
			told = append(told, [][]int64{fork, append([]int64{2}, ones(int(n)-2)...), {n}})
		}
		for _, passport := range told {
			if !slices.ContainsFunc(passports, func(other [][]int64) bool { return sameLists(other, passport) }) {
				t.Errorf("PassportsOf(%d, 0) = %v, without %v", n, passports, passport)
			}
		}
		star, _ := impl.StarDessin(n)
		chain, _ := impl.ChainDessin(n)
		for i, d := range []impl.Dessin{star, chain} {
			least, _ := impl.CanonicalDessin(d)
			if list, code := impl.DessinsOf(told[i]); !slices.Equal(list, []impl.Dessin{least}) || code != impl.ErrNone {
				t.Errorf("DessinsOf(%v) = %v, %d", told[i], list, code)
			}
		}
	}
}
