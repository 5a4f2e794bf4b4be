package tests

import (
	"math"
	"runtime"
	"slices"
	"strings"
	"sync"
	"testing"

	"loop.example/g01200/impl"
)

func TestIsTree(t *testing.T) {
	trees := 0
	for _, d := range append(sampleDessins(), groupDessins(t)...) {
		want := isTreeByHand(d)
		if found, code := impl.IsTree(d); found != want || code != impl.ErrNone {
			t.Fatalf("IsTree(%v) = %v, %d", d, found, code)
		}
		if want {
			trees++
		}
	}
	if trees < 200 {
		t.Errorf("only %d trees are tested", trees)
	}
	for _, d := range sampleTrees() {
		if found, code := impl.IsTree(d); !found || code != impl.ErrNone {
			t.Fatalf("IsTree(%v) = %v, %d", d, found, code)
		}
	}
	for _, d := range notTrees(t) {
		if found, code := impl.IsTree(d); found || code != impl.ErrNone {
			t.Fatalf("IsTree(%v) = %v, %d", d, found, code)
		}
	}
	for n := int64(1); n <= 16; n++ {
		star, _ := impl.StarDessin(n)
		chain, _ := impl.ChainDessin(n)
		band, _ := impl.BandDessin(n)
		for d, want := range map[impl.Dessin]bool{star: true, chain: true, band: n == 1} {
			if found, code := impl.IsTree(d); found != want || code != impl.ErrNone {
				t.Errorf("IsTree(%v) = %v, %d", d, found, code)
			}
		}
	}
	for name, d := range notDessins() {
		if found, code := impl.IsTree(d); found || code != impl.ErrInvalid {
			t.Errorf("%s: IsTree = %v, %d", name, found, code)
		}
	}
}

func TestTreeOfWord(t *testing.T) {
	words := longWords()
	for n := 1; n <= 7; n++ {
		words = append(words, wordsByHand(n)...)
	}
	for _, word := range words {
		d, code := impl.TreeOfWord(word)
		if d != treeByHand(word) || code != impl.ErrNone {
			t.Fatalf("TreeOfWord(%q) = %v, %d", word, d, code)
		}
		if !impl.IsDessin(d) || !isTreeByHand(d) {
			t.Errorf("TreeOfWord(%q) = %v, which is no tree", word, d)
		}
	}
	known := map[string]string{
		"()":           "1|()|()",
		"()()":         "2|(0 1)|()",
		"(())":         "2|()|(0 1)",
		"()()()":       "3|(0 1 2)|()",
		"(()())":       "3|()|(0 1 2)",
		"((()))":       "3|(1 2)|(0 1)",
		"()(())":       "3|(0 1)|(1 2)",
		"(())()":       "3|(0 2)|(0 1)",
		"(()())()":     "4|(0 3)|(0 1 2)",
		"(()(()))":     "4|(2 3)|(0 1 2)",
		"((())(()))":   "5|(1 2)(3 4)|(0 1 3)",
		"(((()())))()": "6|(0 5)(1 2)|(0 1)(2 3 4)",
	}
	for word, want := range known {
		d, code := impl.TreeOfWord(word)
		if text, _ := impl.DessinText(d); text != want || code != impl.ErrNone {
			t.Errorf("TreeOfWord(%q) = %s, %d", word, text, code)
		}
	}
}

func TestTreeOfWordKnowsStarsAndChains(t *testing.T) {
	for n := int64(1); n <= 16; n++ {
		star, _ := impl.StarDessin(n)
		if d, code := impl.TreeOfWord(strings.Repeat("()", int(n))); d != star || code != impl.ErrNone {
			t.Errorf("TreeOfWord of the star of %d = %v, %d", n, d, code)
		}
		chain, _ := impl.ChainDessin(n)
		if d, code := impl.TreeOfWord(strings.Repeat("(", int(n)) + strings.Repeat(")", int(n))); d != chain || code != impl.ErrNone {
			t.Errorf("TreeOfWord of the chain of %d = %v, %d", n, d, code)
		}
	}
}

func TestTreeOfWordRefuses(t *testing.T) {
	check := func(text string) {
		t.Helper()
		if d, code := impl.TreeOfWord(text); d != (impl.Dessin{}) || code != impl.ErrInvalid {
			t.Errorf("TreeOfWord(%q) = %v, %d", text, d, code)
		}
	}
	texts := []string{""}
	for i := 0; i < len(texts) && len(texts[i]) <= 8; i++ {
		if isWordByHand(texts[i]) {
			if _, code := impl.TreeOfWord(texts[i]); code != impl.ErrNone {
				t.Errorf("TreeOfWord(%q): code %d", texts[i], code)
			}
		} else {
			check(texts[i])
		}
		for _, more := range "()x" {
			texts = append(texts, texts[i]+string(more))
		}
	}
	for _, text := range []string{
		strings.Repeat("()", 17), strings.Repeat("(", 17) + strings.Repeat(")", 17), strings.Repeat("()", 128+3), strings.Repeat("()", 1<<16),
		strings.Repeat("(", 16) + strings.Repeat(")", 17), strings.Repeat("(", 17) + strings.Repeat(")", 16), strings.Repeat("(", 1<<20),
		strings.Repeat("()", 15) + "))", strings.Repeat("()", 15) + "((", strings.Repeat("()", 15) + ")(", strings.Repeat("()", 16) + "(",
		strings.Repeat("()", 16) + ")", strings.Repeat("()", 16) + " ", " ()", "() ", "( )", "()\n", "()\x00", "\x00", "[]", "(]", "(())(", "())(()",
		"\u0028\u0029\u200b", "\uff08\uff09", "(\xff)", "\xa8\xa9", "b", "3|(0 1 2)|()",
	} {
		check(text)
	}
}

func TestWordOfTree(t *testing.T) {
	for _, d := range sampleTrees() {
		for x := range d.Darts {
			if word, code := impl.WordOfTree(d, x); word != wordByHand(d, x) || code != impl.ErrNone {
				t.Fatalf("WordOfTree(%v, %d) = %q, %d", d, x, word, code)
			}
		}
	}
	known := map[string][]string{
		"1|()|()":            {"()"},
		"2|(0 1)|()":         {"()()", "()()"},
		"2|()|(0 1)":         {"(())", "(())"},
		"3|(1 2)|(0 1)":      {"((()))", "(())()", "()(())"},
		"3|(0 1)|(1 2)":      {"()(())", "(())()", "((()))"},
		"4|(0 3)|(0 1 2)":    {"(()())()", "(()(()))", "((())())", "()(()())"},
		"4|(0 3)|(0 2 1)":    {"(()())()", "((())())", "(()(()))", "()(()())"},
		"4|(0 1)(2 3)|(1 2)": {"()((()))", "((()))()", "((()))()", "()((()))"},
	}
	for text, want := range known {
		for x, word := range want {
			if found, code := impl.WordOfTree(mustParse(t, text), int64(x)); found != word || code != impl.ErrNone {
				t.Errorf("WordOfTree(%s, %d) = %q, %d", text, x, found, code)
			}
		}
	}
}

// TestTreesComeBackFromTheirWords: at 0 from each word, and at each edge up to a renaming that leads
// 0 to it.
func TestTreesComeBackFromTheirWords(t *testing.T) {
	words := longWords()
	for n := 1; n <= 7; n++ {
		words = append(words, wordsByHand(n)...)
	}
	for _, word := range words {
		d, _ := impl.TreeOfWord(word)
		if found, code := impl.WordOfTree(d, 0); found != word || code != impl.ErrNone {
			t.Fatalf("WordOfTree(%v, 0) = %q, %d, and it is the tree of %q", d, found, code, word)
		}
	}
	for _, d := range sampleTrees() {
		for x := range d.Darts {
			word, _ := impl.WordOfTree(d, x)
			e, code := impl.TreeOfWord(word)
			if code != impl.ErrNone || !slices.ContainsFunc(isomorphismsByHand(e, d), func(p impl.Places) bool { return int64(p[0]) == x }) {
				t.Fatalf("TreeOfWord(%q) = %v, %d, and it is the word of %v at %d", word, e, code, d, x)
			}
		}
	}
}

func TestWordOfTreeRefuses(t *testing.T) {
	far := []int64{-1, 17, 256, 1 << 32, math.MinInt64, math.MaxInt64}
	for name, d := range notDessins() {
		for _, x := range append(far, 0) {
			if word, code := impl.WordOfTree(d, x); word != "" || code != impl.ErrInvalid {
				t.Errorf("%s: WordOfTree = %q, %d", name, word, code)
			}
		}
	}
	for n := int64(1); n <= 16; n++ {
		star, _ := impl.StarDessin(n)
		band, _ := impl.BandDessin(n)
		for _, x := range append(far, n) {
			for _, d := range []impl.Dessin{star, band} {
				if word, code := impl.WordOfTree(d, x); word != "" || code != impl.ErrRange {
					t.Errorf("WordOfTree(%v, %d) = %q, %d", d, x, word, code)
				}
			}
		}
		if word, code := impl.WordOfTree(star, n-1); word != strings.Repeat("()", int(n)) || code != impl.ErrNone {
			t.Errorf("WordOfTree(star of %d, %d) = %q, %d", n, n-1, word, code)
		}
	}
	for _, d := range notTrees(t) {
		for x := range d.Darts {
			if word, code := impl.WordOfTree(d, x); word != "" || code != impl.ErrState {
				t.Fatalf("WordOfTree(%v, %d) = %q, %d", d, x, word, code)
			}
		}
	}
}

func TestCanonicalWord(t *testing.T) {
	for _, d := range sampleTrees() {
		if word, code := impl.CanonicalWord(d); word != slices.Min(allWordsOf(d)) || code != impl.ErrNone {
			t.Fatalf("CanonicalWord(%v) = %q, %d", d, word, code)
		}
	}
	known := map[string]string{
		"1|()|()":              "()",
		"2|(0 1)|()":           "()()",
		"2|()|(0 1)":           "(())",
		"3|(1 2)|(0 1)":        "((()))",
		"3|(0 1)|(1 2)":        "((()))",
		"4|(0 3)|(0 1 2)":      "((())())",
		"4|(0 3)|(0 2 1)":      "((())())",
		"4|(0 1)(2 3)|(1 2)":   "((()))()",
		"4|(1 2)|(0 1)(2 3)":   "(((())))",
		"5|(0 3 4)|(0 1)(2 3)": "(((())()))",
	}
	for text, want := range known {
		if word, code := impl.CanonicalWord(mustParse(t, text)); word != want || code != impl.ErrNone {
			t.Errorf("CanonicalWord(%s) = %q, %d", text, word, code)
		}
	}
	for n := int64(1); n <= 16; n++ {
		star, _ := impl.StarDessin(n)
		if word, code := impl.CanonicalWord(star); word != strings.Repeat("()", int(n)) || code != impl.ErrNone {
			t.Errorf("CanonicalWord(star of %d) = %q, %d", n, word, code)
		}
	}
}

func TestSymmetryOf(t *testing.T) {
	for _, d := range sampleTrees() {
		words := allWordsOf(d)
		want := int64(0)
		for _, word := range words {
			if word == slices.Min(words) {
				want++
			}
		}
		if found, code := impl.SymmetryOf(d); found != want || d.Darts%found != 0 || code != impl.ErrNone {
			t.Fatalf("SymmetryOf(%v) = %d, %d", d, found, code)
		}
	}
	known := map[string]int64{
		"()": 1, "()()": 2, "(())": 2, "((()))": 1, "(()())()": 1, "(((())))": 2, "(())(())": 2, "(())(())(())": 3,
		"(()())(()())": 2, "(()())(()()())": 1, "((()))((()))((()))((()))((()))": 5, "(())(())(())(())(())(())(())(())": 8,
		"(()()())(()()())(()()())(()()())": 4, "(())()(())()(())()": 3, "(())(())()(())()": 1,
	}
	for word, want := range known {
		if found, code := impl.SymmetryOf(treeByHand(word)); found != want || code != impl.ErrNone {
			t.Errorf("SymmetryOf the tree of %q = %d, %d", word, found, code)
		}
	}
	for n := int64(1); n <= 16; n++ {
		star, _ := impl.StarDessin(n)
		if found, code := impl.SymmetryOf(star); found != n || code != impl.ErrNone {
			t.Errorf("SymmetryOf(star of %d) = %d, %d", n, found, code)
		}
		chain, _ := impl.ChainDessin(n)
		if found, code := impl.SymmetryOf(chain); found != 2-n%2 || code != impl.ErrNone {
			t.Errorf("SymmetryOf(chain of %d) = %d, %d", n, found, code)
		}
	}
}

// TestSymmetriesCountWords: a tree has its edges divided by its symmetry as different words, each of
// them at so many edges as the symmetry, which is that of its automorphisms.
func TestSymmetriesCountWords(t *testing.T) {
	for _, d := range sampleTrees() {
		symmetry, code := impl.SymmetryOf(d)
		if want := int64(len(isomorphismsByHand(d, d))); symmetry != want || code != impl.ErrNone {
			t.Fatalf("SymmetryOf(%v) = %d, %d, and it has %d automorphisms", d, symmetry, code, want)
		}
		counts := map[string]int64{}
		for x := range d.Darts {
			word, _ := impl.WordOfTree(d, x)
			counts[word]++
		}
		if int64(len(counts))*symmetry != d.Darts {
			t.Errorf("SymmetryOf(%v) = %d, and it has %d words", d, symmetry, len(counts))
		}
		for word, count := range counts {
			if count != symmetry {
				t.Errorf("SymmetryOf(%v) = %d, and %q is the word at %d edges", d, symmetry, word, count)
			}
		}
	}
}

// TestEqualCanonicalWordsTellAlikeTrees: trees of all words, and renamed ones, have one canonical
// word exactly if one is led to the other.
func TestEqualCanonicalWordsTellAlikeTrees(t *testing.T) {
	classes := []int{1, 2, 3, 6, 10, 28, 63}
	for n := int64(1); n <= 7; n++ {
		wordOf, formOf := map[impl.Dessin]string{}, map[string]impl.Dessin{}
		for _, word := range wordsByHand(int(n)) {
			for _, d := range []impl.Dessin{treeByHand(word), withOtherNames(treeByHand(word))} {
				found, code := impl.CanonicalWord(d)
				form := canonicalByHand(d)
				if known, ok := wordOf[form]; ok && known != found || code != impl.ErrNone {
					t.Fatalf("CanonicalWord(%v) = %q, %d, and of a tree like it %q", d, found, code, known)
				}
				if known, ok := formOf[found]; ok && known != form {
					t.Fatalf("CanonicalWord(%v) = %q, and that of %v, too", d, found, known)
				}
				wordOf[form], formOf[found] = found, form
			}
		}
		if len(formOf) != classes[n-1] {
			t.Errorf("%d canonical words of %d edges", len(formOf), n)
		}
	}
	trees := sampleTrees()
	for i, d := range trees {
		e := trees[i*7919%len(trees)]
		a, _ := impl.CanonicalWord(d)
		b, _ := impl.CanonicalWord(e)
		if alike := len(isomorphismsByHand(d, e)) > 0; (a == b) != alike {
			t.Fatalf("CanonicalWord(%v) = %q, CanonicalWord(%v) = %q", d, a, e, b)
		}
	}
}

// TestCanonicalWordsOfCanonicalWords: the tree of a canonical word has it at 0.
func TestCanonicalWordsOfCanonicalWords(t *testing.T) {
	for _, d := range sampleTrees() {
		word, _ := impl.CanonicalWord(d)
		e, _ := impl.TreeOfWord(word)
		if again, code := impl.CanonicalWord(e); again != word || code != impl.ErrNone || len(isomorphismsByHand(d, e)) == 0 {
			t.Fatalf("CanonicalWord(%v) = %q, %d, and of the tree of this %q", d, word, code, again)
		}
	}
}

// TestColoursOfTrees: a word stands for a tree that begins at a black vertex, so that the star of
// white vertices around a black one and that of black ones around a white one differ.
func TestColoursOfTrees(t *testing.T) {
	for n := int64(3); n <= 16; n++ {
		star, _ := impl.StarDessin(n)
		other := impl.Dessin{Darts: n, Black: star.White, White: star.Black}
		a, _ := impl.CanonicalWord(star)
		b, code := impl.CanonicalWord(other)
		if want := "(" + strings.Repeat("()", int(n)-1) + ")"; b != want || a == b || code != impl.ErrNone {
			t.Errorf("CanonicalWord(%v) = %q, %d", other, b, code)
		}
	}
}

func TestTreesAloneHaveCanonicalWords(t *testing.T) {
	check := func(d impl.Dessin, want int64) {
		t.Helper()
		if word, code := impl.CanonicalWord(d); word != "" || code != want {
			t.Errorf("CanonicalWord(%v) = %q, %d", d, word, code)
		}
		if symmetry, code := impl.SymmetryOf(d); symmetry != 0 || code != want {
			t.Errorf("SymmetryOf(%v) = %d, %d", d, symmetry, code)
		}
	}
	for _, d := range notDessins() {
		check(d, impl.ErrInvalid)
	}
	for _, d := range notTrees(t) {
		check(d, impl.ErrState)
	}
}

// TestNothingRunsOnBehindWords: whatever sends words has ended when they are told, and calls at the
// same time do not disturb each other.
func TestNothingRunsOnBehindWords(t *testing.T) {
	before := runtime.NumGoroutine()
	var group sync.WaitGroup
	for i, word := range longWords() {
		group.Go(func() {
			d := treeByHand(word)
			if found, code := impl.CanonicalWord(d); found != slices.Min(allWordsOf(d)) || code != impl.ErrNone {
				t.Errorf("CanonicalWord(%v) = %q, %d", d, found, code)
			}
			if i%20 == 0 {
				impl.TreesOfTypes([]int64{3, 2, 1, 1}, []int64{2, 2, 2, 1})
			}
		})
	}
	group.Wait()
	for range 1000000 {
		if runtime.NumGoroutine() <= before {
			return
		}
		runtime.Gosched()
	}
	t.Errorf("%d goroutines run on", runtime.NumGoroutine()-before)
}
