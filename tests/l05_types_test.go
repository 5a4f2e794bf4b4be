package tests

import (
	"fmt"
	"slices"
	"testing"

	"loop.example/g01200/impl"
)

// pairOfTypes is a name for two types.
func pairOfTypes(black, white []int64) string { return fmt.Sprint(black, white) }

// wordsByTypes lists all words of n edges in lexicographic order under the types of their trees.
func wordsByTypes(n int64) map[string][]string {
	words := map[string][]string{}
	for _, word := range wordsByHand(int(n)) {
		d := treeByHand(word)
		at := pairOfTypes(typeByHand(d.Black, n), typeByHand(d.White, n))
		words[at] = append(words[at], word)
	}
	return words
}

func canonicalWordsByHand(words []string) []string {
	var canonical []string
	for _, word := range words {
		if slices.Min(allWordsOf(treeByHand(word))) == word {
			canonical = append(canonical, word)
		}
	}
	return canonical
}

func TestLimitOfTrees(t *testing.T) {
	if impl.MaxListed != 8 {
		t.Errorf("MaxListed = %d", impl.MaxListed)
	}
}

func TestCountRooted(t *testing.T) {
	for n := int64(1); n <= 9; n++ {
		words := wordsByTypes(n)
		for _, black := range descendingLists(n) {
			for _, white := range descendingLists(n) {
				want := int64(len(words[pairOfTypes(black, white)]))
				first, second := withSpare(black), withSpare(white)
				if found, code := impl.CountRooted(first, second); found != want || code != impl.ErrNone {
					t.Fatalf("CountRooted(%v, %v) = %d, %d, not %d", black, white, found, code, want)
				}
				checkSpareKept(t, "CountRooted", first, black)
				checkSpareKept(t, "CountRooted", second, white)
			}
		}
	}
	cases := []struct {
		black, white []int64
		want         int64
	}{
		{[]int64{1}, []int64{1}, 1},
		{[]int64{2}, []int64{2}, 0},
		{[]int64{1, 1}, []int64{1, 1}, 0},
		{[]int64{2}, []int64{1, 1}, 1},
		{[]int64{2, 1}, []int64{2, 1}, 3},
		{[]int64{2, 1, 1}, []int64{3, 1}, 4},
		{[]int64{2, 2, 1}, []int64{2, 2, 1}, 5},
		{[]int64{3, 1, 1}, []int64{2, 2, 1}, 5},
		{[]int64{16}, ones(16), 1},
		{ones(16), []int64{16}, 1},
		{[]int64{16}, []int64{16}, 0},
		{ones(16), ones(16), 0},
		{[]int64{4, 3, 2, 2, 1, 1, 1, 1, 1}, []int64{6, 4, 1, 1, 1, 1, 1, 1}, 16 * 40320 * 5040 / (2 * 120 * 720)},
		{[]int64{6, 5, 4, 1}, []int64{3, 2, 2, 1, 1, 1, 1, 1, 1, 1, 1, 1}, 0},
		{[]int64{6, 5, 4, 1}, []int64{2, 2, 2, 1, 1, 1, 1, 1, 1, 1, 1, 1, 1}, 16 * 6 * 479001600 / (6 * 3628800)},
		{[]int64{9, 3, 2, 1, 1}, []int64{3, 3, 2, 1, 1, 1, 1, 1, 1, 1, 1}, 0},
		{[]int64{9, 3, 2, 1, 1}, []int64{3, 2, 2, 1, 1, 1, 1, 1, 1, 1, 1, 1}, 16 * 24 * 39916800 / (2 * 2 * 362880)},
	}
	for _, c := range cases {
		if found, code := impl.CountRooted(c.black, c.white); found != c.want || code != impl.ErrNone {
			t.Errorf("CountRooted(%v, %v) = %d, %d", c.black, c.white, found, code)
		}
	}
}

// TestAllWordsAreCounted: there are as many words as Catalan's number, and each one is that of a
// tree with two types.
func TestAllWordsAreCounted(t *testing.T) {
	catalan := int64(1)
	for n := int64(1); n <= 16; n++ {
		catalan = catalan * (4*n - 2) / (n + 1)
		types, sum := descendingLists(n), int64(0)
		for _, black := range types {
			for _, white := range types {
				count, code := impl.CountRooted(black, white)
				if code != impl.ErrNone || (count > 0) != (int64(len(black)+len(white)) == n+1) {
					t.Fatalf("CountRooted(%v, %v) = %d, %d", black, white, count, code)
				}
				sum += count
			}
		}
		if sum != catalan {
			t.Errorf("%d words of %d edges are counted, not %d", sum, n, catalan)
		}
	}
}

func TestTreesOfTypes(t *testing.T) {
	for n := int64(1); n <= 8; n++ {
		words := wordsByTypes(n)
		for _, black := range descendingLists(n) {
			for _, white := range descendingLists(n) {
				want := canonicalWordsByHand(words[pairOfTypes(black, white)])
				first, second := withSpare(black), withSpare(white)
				if list, code := impl.TreesOfTypes(first, second); !slices.Equal(list, want) || code != impl.ErrNone {
					t.Fatalf("TreesOfTypes(%v, %v) = %q, %d, not %q", black, white, list, code, want)
				}
				checkSpareKept(t, "TreesOfTypes", first, black)
				checkSpareKept(t, "TreesOfTypes", second, white)
			}
		}
	}
	cases := []struct {
		black, white []int64
		want         []string
	}{
		{[]int64{1}, []int64{1}, []string{"()"}},
		{[]int64{2}, []int64{2}, nil},
		{[]int64{1, 1}, []int64{1, 1}, nil},
		{[]int64{2}, []int64{1, 1}, []string{"()()"}},
		{[]int64{1, 1}, []int64{2}, []string{"(())"}},
		{[]int64{2, 1}, []int64{2, 1}, []string{"((()))"}},
		{[]int64{2, 1, 1}, []int64{3, 1}, []string{"((())())"}},
		{[]int64{2, 2, 1}, []int64{2, 2, 1}, []string{"((((()))))"}},
		{[]int64{8}, ones(8), []string{"()()()()()()()()"}},
		{ones(8), []int64{8}, []string{"(()()()()()()())"}},
		{[]int64{2, 2, 1, 1}, []int64{3, 2, 1}, []string{"((((())())))", "((((())))())", "(((()(()))))"}},
	}
	for _, c := range cases {
		if list, code := impl.TreesOfTypes(c.black, c.white); !slices.Equal(list, c.want) || code != impl.ErrNone {
			t.Errorf("TreesOfTypes(%v, %v) = %q, %d", c.black, c.white, list, code)
		}
	}
}

// typesOfTrees lists all pairs of types of n with n + 1 numbers together.
func typesOfTrees(n int64) [][2][]int64 {
	var pairs [][2][]int64
	for _, black := range descendingLists(n) {
		for _, white := range descendingLists(n) {
			if int64(len(black)+len(white)) == n+1 {
				pairs = append(pairs, [2][]int64{black, white})
			}
		}
	}
	return pairs
}

// TestTreesOfTypesHaveTheirTypes: and their edges divided by their symmetries are as many as words.
func TestTreesOfTypesHaveTheirTypes(t *testing.T) {
	counts, words := []int{1, 2, 3, 6, 10, 28, 63, 190}, []int64{1, 2, 5, 14, 42, 132, 429, 1430}
	for n := int64(1); n <= 8; n++ {
		told, roots := 0, int64(0)
		for _, types := range typesOfTrees(n) {
			list, _ := impl.TreesOfTypes(types[0], types[1])
			sum := int64(0)
			for _, word := range list {
				d, code := impl.TreeOfWord(word)
				if code != impl.ErrNone || !slices.Equal(typeByHand(d.Black, n), types[0]) || !slices.Equal(typeByHand(d.White, n), types[1]) {
					t.Fatalf("TreesOfTypes(%v) = %q", types, list)
				}
				if least, _ := impl.CanonicalWord(d); least != word {
					t.Errorf("%q of %v is not canonical", word, types)
				}
				symmetry, _ := impl.SymmetryOf(d)
				sum += n / symmetry
			}
			if count, _ := impl.CountRooted(types[0], types[1]); count != sum || !slices.IsSorted(list) {
				t.Errorf("CountRooted(%v) = %d, and %q have %d words", types, count, list, sum)
			}
			told += len(list)
			roots += sum
		}
		if told != counts[n-1] || roots != words[n-1] {
			t.Errorf("%d trees of %d edges with %d words are told", told, n, roots)
		}
	}
}

// TestPassportsWithOneFaceAreThoseOfTrees: the dessins of two types with one face and the genus 0 are
// the trees of these types.
func TestPassportsWithOneFaceAreThoseOfTrees(t *testing.T) {
	for n := int64(1); n <= 8; n++ {
		for _, types := range typesOfTrees(n) {
			passport := [][]int64{types[0], types[1], {n}}
			forms := map[impl.Dessin]bool{}
			list, _ := impl.TreesOfTypes(types[0], types[1])
			for _, word := range list {
				d, _ := impl.TreeOfWord(word)
				if found, code := impl.PassportOf(d); !sameLists(found, passport) || code != impl.ErrNone {
					t.Fatalf("PassportOf(%v) = %v, %d, and it is the tree of %q", d, found, code, word)
				}
				form, _ := impl.CanonicalDessin(d)
				forms[form] = true
			}
			if euler, code := impl.EulerOfPassport(passport); euler != 2 || code != impl.ErrNone {
				t.Errorf("EulerOfPassport(%v) = %d, %d", passport, euler, code)
			}
			dessins, code := impl.DessinsOf(passport)
			if len(forms) == 0 || len(forms) != len(list) || !slices.Equal(dessins, sortedDessins(forms)) || code != impl.ErrNone {
				t.Errorf("DessinsOf(%v) = %v, %d, and the trees are %q", passport, dessins, code, list)
			}
		}
	}
}

// TestPassportsOfGenusZeroWithOneFace: they are told exactly for the types of trees.
func TestPassportsOfGenusZeroWithOneFace(t *testing.T) {
	for n := int64(1); n <= 5; n++ {
		var want [][][]int64
		for _, black := range descendingLists(n) {
			for _, white := range descendingLists(n) {
				if list, _ := impl.TreesOfTypes(black, white); len(list) > 0 {
					want = append(want, [][]int64{black, white, {n}})
				}
			}
		}
		passports, code := impl.PassportsOf(n, 0)
		found := slices.DeleteFunc(passports, func(passport [][]int64) bool { return len(passport[2]) > 1 })
		if !slices.EqualFunc(found, want, sameLists) || code != impl.ErrNone {
			t.Errorf("PassportsOf(%d, 0) with one face = %v, %d, not %v", n, found, code, want)
		}
	}
}

// TestDessinsWithThePassportOfATreeAreTrees, as the passport tells faces and vertices.
func TestDessinsWithThePassportOfATreeAreTrees(t *testing.T) {
	for _, d := range sampleDessins() {
		passport, _ := impl.PassportOf(d)
		euler, _ := impl.EulerOfPassport(passport)
		want := len(passport[2]) == 1 && euler == 2
		if found, code := impl.IsTree(d); found != want || code != impl.ErrNone {
			t.Fatalf("IsTree(%v) = %v, %d, and its passport is %v", d, found, code, passport)
		}
		if !want || d.Darts > 8 {
			continue
		}
		word, _ := impl.CanonicalWord(d)
		if list, code := impl.TreesOfTypes(passport[0], passport[1]); !slices.Contains(list, word) || code != impl.ErrNone {
			t.Errorf("TreesOfTypes(%v, %v) = %q, %d, without %q", passport[0], passport[1], list, code, word)
		}
	}
}

func TestTypesOfTreesAreRefused(t *testing.T) {
	check := func(name string, black, white []int64) {
		t.Helper()
		if count, code := impl.CountRooted(black, white); count != 0 || code != impl.ErrRange {
			t.Errorf("%s: CountRooted(%v, %v) = %d, %d", name, black, white, count, code)
		}
		if list, code := impl.TreesOfTypes(black, white); len(list) != 0 || code != impl.ErrRange {
			t.Errorf("%s: TreesOfTypes(%v, %v) = %q, %d", name, black, white, list, code)
		}
	}
	for name, list := range notTypes() {
		for _, other := range [][]int64{{2, 1}, {1}, {16}, {1, 1, 1}} {
			check("first: "+name, list, other)
			check("second: "+name, other, list)
		}
		check("both: "+name, list, list)
	}
	for _, c := range [][2][]int64{{{3}, {1, 1}}, {{2}, {1, 1, 1}}, {{2, 1}, {2, 2}}, {{16}, ones(15)}, {ones(9), {8}}, {{16}, {1}}} {
		check("two sums", c[0], c[1])
	}
}

func TestTreesOfGreatTypesAreRefused(t *testing.T) {
	for n := int64(9); n <= 16; n++ {
		for _, c := range [][2][]int64{{{n}, ones(int(n))}, {ones(int(n)), {n}}, {{n}, {n}}, {{n - 1, 1}, append([]int64{2}, ones(int(n-2))...)}} {
			if list, code := impl.TreesOfTypes(c[0], c[1]); len(list) != 0 || code != impl.ErrRange {
				t.Errorf("TreesOfTypes(%v, %v) = %q, %d", c[0], c[1], list, code)
			}
			if _, code := impl.CountRooted(c[0], c[1]); code != impl.ErrNone {
				t.Errorf("CountRooted(%v, %v): code %d", c[0], c[1], code)
			}
		}
	}
}

func TestTreesOfTypesAreNewMemory(t *testing.T) {
	black, white := []int64{3, 2, 1, 1}, []int64{3, 2, 1, 1}
	list, _ := impl.TreesOfTypes(black, []int64{2, 2, 2, 1})
	want := slices.Clone(list)
	clear(list[:cap(list)])
	if again, _ := impl.TreesOfTypes(black, []int64{2, 2, 2, 1}); len(want) < 2 || !slices.Equal(again, want) {
		t.Errorf("TreesOfTypes = %q, and then %q", want, again)
	}
	if list, code := impl.TreesOfTypes(black, white); len(list) < 2 || code != impl.ErrNone {
		t.Errorf("TreesOfTypes = %q, %d", list, code)
	}
}
