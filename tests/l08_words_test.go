package tests

import (
	"math"
	"slices"
	"strings"
	"testing"

	"loop.example/g01200/impl"
)

func TestWords(t *testing.T) {
	for _, word := range spellings() {
		if !impl.IsWord(word) {
			t.Errorf("IsWord(%q) = false", word)
		}
	}
	for _, text := range notSpellings() {
		if impl.IsWord(text) {
			t.Errorf("IsWord(%q) = true", text)
		}
	}
	for letter := range 256 {
		want := strings.IndexByte(fourLetters, byte(letter)) >= 0
		for _, text := range []string{string([]byte{byte(letter)}), "x" + string([]byte{byte(letter)}) + "Y"} {
			if impl.IsWord(text) != want {
				t.Errorf("IsWord(%q) = %v", text, !want)
			}
		}
	}
	for length := range 130 {
		for _, letter := range fourLetters {
			if word := powerOfWord(string(letter), length); impl.IsWord(word) != (length <= 60) {
				t.Errorf("IsWord(%q) = %v with %d letters", word, length > 60, length)
			}
		}
	}
}

func TestReduceWord(t *testing.T) {
	shorter := 0
	for _, word := range spellings() {
		reduced, code := impl.ReduceWord(word)
		if reduced != reducedByHand(word) || code != impl.ErrNone {
			t.Fatalf("ReduceWord(%q) = %q, %d", word, reduced, code)
		}
		if len(reduced) < len(word) {
			shorter++
		}
		if again, code := impl.ReduceWord(reduced); again != reduced || code != impl.ErrNone {
			t.Errorf("ReduceWord(%q) = %q, %d, though it is reduced", reduced, again, code)
		}
	}
	if shorter < 80 {
		t.Errorf("only %d words are not reduced", shorter)
	}
	cases := map[string]string{
		"": "", "x": "x", "xX": "", "Xx": "", "yY": "", "Yy": "", "xx": "xx", "xY": "xY", "Xy": "Xy", "yx": "yx",
		"xyYX": "", "xyXY": "xyXY", "xXx": "x", "XxX": "X", "xyYx": "xx", "xXyY": "", "yxXY": "", "yxXy": "yy",
		"xyYXxyYX": "", "xxyYXy": "xy", "YXxyYXxy": "", "xYyyX": "xyX",
		powerOfWord("x", 30) + powerOfWord("X", 30): "",
		powerOfWord("x", 30) + powerOfWord("X", 29): "x",
		powerOfWord("y", 29) + powerOfWord("Y", 31): "YY",
		powerOfWord("xyXY", 15):                     powerOfWord("xyXY", 15),
	}
	for word, want := range cases {
		if reduced, code := impl.ReduceWord(word); reduced != want || code != impl.ErrNone {
			t.Errorf("ReduceWord(%q) = %q, %d; want %q", word, reduced, code, want)
		}
	}
}

func TestInverseWord(t *testing.T) {
	for _, word := range spellings() {
		inverse, code := impl.InverseWord(word)
		if inverse != inverseByLetters(word) || code != impl.ErrNone {
			t.Fatalf("InverseWord(%q) = %q, %d", word, inverse, code)
		}
		if again, code := impl.InverseWord(inverse); again != word || code != impl.ErrNone {
			t.Errorf("InverseWord(%q) = %q, %d; want %q", inverse, again, code, word)
		}
		if len(word) > 30 {
			continue
		}
		for _, both := range []string{word + inverse, inverse + word} {
			if reduced, code := impl.ReduceWord(both); reduced != "" || code != impl.ErrNone {
				t.Errorf("ReduceWord(%q) = %q, %d", both, reduced, code)
			}
		}
	}
	// The inverse of a word that is not reduced is not reduced, either.
	cases := map[string]string{"": "", "x": "X", "X": "x", "y": "Y", "Y": "y", "xY": "yX", "xX": "xX", "xxY": "yXX", "xyXY": "yxYX"}
	for word, want := range cases {
		if inverse, code := impl.InverseWord(word); inverse != want || code != impl.ErrNone {
			t.Errorf("InverseWord(%q) = %q, %d; want %q", word, inverse, code, want)
		}
	}
}

func TestNoWordsToTurn(t *testing.T) {
	for _, text := range notSpellings() {
		if word, code := impl.ReduceWord(text); word != "" || code != impl.ErrInvalid {
			t.Errorf("ReduceWord(%q) = %q, %d", text, word, code)
		}
		if word, code := impl.InverseWord(text); word != "" || code != impl.ErrInvalid {
			t.Errorf("InverseWord(%q) = %q, %d", text, word, code)
		}
	}
}

func TestWordPlaces(t *testing.T) {
	words := spellings()
	for i, d := range sampleDessins() {
		for j, word := range words {
			if (i+j)%9 != 0 && d.Darts > 2 {
				continue
			}
			if p, code := impl.WordPlaces(d, word); p != placesOfWord(d, word) || code != impl.ErrNone {
				t.Fatalf("WordPlaces(%v, %q) = %v, %d", d, word, p, code)
			}
		}
	}
	cases := []struct {
		text string
		word string
		want impl.Places
	}{
		{"1|()|()", "", impl.Places{0}},
		{"1|()|()", "xyXY", impl.Places{0}},
		{"3|(0 1 2)|(0 1)", "", impl.Places{0, 1, 2}},
		{"3|(0 1 2)|(0 1)", "x", impl.Places{1, 2, 0}},
		{"3|(0 1 2)|(0 1)", "X", impl.Places{2, 0, 1}},
		{"3|(0 1 2)|(0 1)", "y", impl.Places{1, 0, 2}},
		{"3|(0 1 2)|(0 1)", "Y", impl.Places{1, 0, 2}},
		{"3|(0 1 2)|(0 1)", "xy", impl.Places{0, 2, 1}},
		{"3|(0 1 2)|(0 1)", "yx", impl.Places{2, 1, 0}},
		{"4|(0 1 2)|(2 3)", "xY", impl.Places{1, 3, 0, 2}},
		{"4|(0 1 2)|(1 2 3)", "yX", impl.Places{2, 1, 3, 0}},
		{"3|(0 1 2)|()", "xx", impl.Places{2, 0, 1}},
	}
	for _, c := range cases {
		if p, code := impl.WordPlaces(mustParse(t, c.text), c.word); p != c.want || code != impl.ErrNone {
			t.Errorf("WordPlaces(%s, %q) = %v, %d; want %v", c.text, c.word, p, code, c.want)
		}
	}
}

// TestWordsLeadAsTheirReducedForms is the first part of promise 8, and of the Guarantee.
func TestWordsLeadAsTheirReducedForms(t *testing.T) {
	words := spellings()
	for i, d := range sampleDessins() {
		for j, word := range words {
			if (i+j)%11 != 0 {
				continue
			}
			want, code := impl.WordPlaces(d, word)
			reduced, reduceCode := impl.ReduceWord(word)
			p, sameCode := impl.WordPlaces(d, reduced)
			if p != want || code != impl.ErrNone || reduceCode != impl.ErrNone || sameCode != impl.ErrNone {
				t.Fatalf("%q leads the darts of %v to %v, and its reduced form %q to %v", word, d, want, reduced, p)
			}
			inverse, inverseCode := impl.InverseWord(word)
			back, code := impl.WordPlaces(d, inverse)
			both, _ := impl.ThenPlaces(want, back, d.Darts)
			if both != staying(d.Darts) || inverseCode != impl.ErrNone || code != impl.ErrNone {
				t.Fatalf("%q leads the darts of %v to %v, and its inverse to %v", word, d, want, back)
			}
		}
	}
}

func TestWordPlacesOfNothing(t *testing.T) {
	for name, d := range notDessins() {
		for _, word := range []string{"", "xy", "z"} {
			if p, code := impl.WordPlaces(d, word); p != (impl.Places{}) || code != impl.ErrInvalid {
				t.Errorf("WordPlaces(%s, %q) = %v, %d", name, word, p, code)
			}
		}
	}
	star, _ := impl.StarDessin(4)
	for _, text := range notSpellings() {
		if p, code := impl.WordPlaces(star, text); p != (impl.Places{}) || code != impl.ErrInvalid {
			t.Errorf("WordPlaces(%v, %q) = %v, %d", star, text, p, code)
		}
	}
}

func TestStabiliserWords(t *testing.T) {
	for _, d := range sampleDessins() {
		words, code := impl.StabiliserWords(d)
		if !slices.Equal(words, stabiliserByHand(d)) || code != impl.ErrNone {
			t.Fatalf("StabiliserWords(%v) = %q, %d; want %q", d, words, code, stabiliserByHand(d))
		}
		// Of two words for each dart all but one lead to a new name behind one empty word each.
		if int64(len(words)) != d.Darts+1 {
			t.Errorf("StabiliserWords(%v) are %d words", d, len(words))
		}
		for _, word := range words {
			if leadByHand(rowsOf(d), 0, word) != 0 || word != reducedByHand(word) || !impl.IsWord(word) {
				t.Errorf("StabiliserWords(%v) has %q", d, word)
			}
		}
	}
	cases := []struct {
		text string
		want []string
	}{
		{"1|()|()", []string{"x", "y"}},
		{"2|(0 1)|()", []string{"y", "xx", "xyX"}},
		{"2|()|(0 1)", []string{"x", "yxY", "yy"}},
		{"2|(0 1)|(0 1)", []string{"yX", "xx", "xy"}},
		{"3|(0 1 2)|()", []string{"y", "xyX", "xxx", "xxyXX"}},
		{"3|(0 2 1)|()", []string{"y", "xyX", "xxx", "xxyXX"}},
		{"3|(0 1 2)|(0 2 1)", []string{"xxY", "xy", "yx", "yyX"}},
		{"3|(1 2)|(0 1)", []string{"x", "yy", "yxxY", "yxyXY"}},
		{"3|(0 1)|(0 2)", []string{"xx", "xyX", "yxY", "yy"}},
		{"4|(0 1)(2 3)|(0 2)(1 3)", []string{"xx", "yxYX", "yy", "xyxY", "xyyX"}},
	}
	for _, c := range cases {
		if words, code := impl.StabiliserWords(mustParse(t, c.text)); !slices.Equal(words, c.want) || code != impl.ErrNone {
			t.Errorf("StabiliserWords(%s) = %q, %d; want %q", c.text, words, code, c.want)
		}
	}
	for name, d := range notDessins() {
		if words, code := impl.StabiliserWords(d); len(words) != 0 || code != impl.ErrInvalid {
			t.Errorf("StabiliserWords(%s) = %q, %d", name, words, code)
		}
	}
	chain, _ := impl.ChainDessin(9)
	checkOwnWords(t, "StabiliserWords", func() []string {
		words, _ := impl.StabiliserWords(chain)
		return words
	})
}

func TestTriangleRelations(t *testing.T) {
	for a := int64(-2); a <= 33; a++ {
		for b := int64(-2); b <= 33; b++ {
			for c := int64(-2); c <= 33; c++ {
				checkTriangleRelations(t, a, b, c)
			}
		}
	}
	for _, n := range []int64{-1, 1, 31, 32, 60, 61, 256, 258, 1 << 32, 1<<32 + 2, math.MinInt64, math.MaxInt64} {
		checkTriangleRelations(t, n, 2, 3)
		checkTriangleRelations(t, 2, n, 3)
		checkTriangleRelations(t, 2, 3, n)
		checkTriangleRelations(t, n, n, n)
	}
	checkOwnWords(t, "TriangleRelations", func() []string {
		relations, _ := impl.TriangleRelations(0, 3, 4)
		return relations
	})
}

func checkTriangleRelations(t *testing.T, a, b, c int64) {
	t.Helper()
	var want []string
	code := int64(impl.ErrNone)
	for i, n := range []int64{a, b, c} {
		if n < 0 || n == 1 || n > 30 {
			want, code = nil, impl.ErrRange
			break
		}
		if n > 0 {
			want = append(want, powerOfWord([]string{"x", "y", "xy"}[i], int(n)))
		}
	}
	if relations, got := impl.TriangleRelations(a, b, c); !slices.Equal(relations, want) || got != code {
		t.Fatalf("TriangleRelations(%d, %d, %d) = %q, %d; want %q, %d", a, b, c, relations, got, want, code)
	}
}

// relationLists are lists of relations.
func relationLists() [][]string {
	lists := [][]string{
		nil, {}, {""}, {"x"}, {"y"}, {"xX", "yY"}, {"xx"}, {"yyy"}, {"xx", "yyy"}, {"xyXY"}, {"xxx", "y"}, {"xy"}, {"xY"},
		{"xx", "yy", "xyxyxy"}, {"xxxx", "yyyy", "xyXY"}, {"xyXY", "xxxyyy"}, {"xxyy"}, {"xyxYXY"}, {"xyXYxyXY", ""},
		{"Xyx", "YY"}, slices.Repeat([]string{"xxxxxx"}, 20), slices.Repeat([]string{""}, 20),
		{powerOfWord("x", 60)}, {powerOfWord("xy", 30), powerOfWord("x", 60), powerOfWord("Y", 60)},
	}
	s := source(85)
	for range 20 {
		var list []string
		for range 1 + s.below(3) {
			list = append(list, powerOfWord(s.spelling(1+s.below(4)), 1+s.below(12)))
		}
		lists = append(lists, list)
	}
	return lists
}

// tooManyWords are lists of more than 20 words.
func tooManyWords() [][]string {
	return [][]string{
		slices.Repeat([]string{"x"}, 21), slices.Repeat([]string{""}, 21), slices.Repeat([]string{"xy", "yx"}, 11),
		slices.Repeat([]string{"xyXY"}, 276), slices.Repeat([]string{powerOfWord("xX", 30)}, 1000),
	}
}

func TestSatisfiesRelations(t *testing.T) {
	counts := map[bool]int{}
	for i, d := range append(sampleDessins(), groupDessins(t)...) {
		for j, relations := range relationLists() {
			if (i+j)%3 != 0 && d.Darts > 2 {
				continue
			}
			given := withSpareWords(relations)
			yes, code := impl.SatisfiesRelations(d, given)
			want := fixesAll(rowsOf(d), relations)
			if yes != want || code != impl.ErrNone {
				t.Fatalf("SatisfiesRelations(%v, %q) = %v, %d", d, relations, yes, code)
			}
			checkWordsKept(t, "SatisfiesRelations", given, relations)
			counts[yes]++
		}
	}
	if counts[true] < 1000 || counts[false] < 1000 {
		t.Errorf("dessins that satisfy relations, and others: %v", counts)
	}
}

func TestKnownRelations(t *testing.T) {
	cases := []struct {
		text      string
		relations []string
		want      bool
	}{
		{"1|()|()", nil, true},
		{"1|()|()", []string{"x", "y", "xyxY"}, true},
		{"3|(0 1 2)|()", []string{"xxx", "y"}, true},
		{"3|(0 1 2)|()", []string{"xxx", "y", "x"}, false},
		{"3|(0 1 2)|()", []string{"x", "xxx", "y"}, false},
		// each relation leads a dart to itself, but not all of them
		{"3|(0 1 2)|(0 1)", []string{"xxx", "yy", "xyxy"}, true},
		{"3|(0 1 2)|(0 1)", []string{"xy"}, false},
		{"3|(0 1)|(1 2)", []string{"y"}, false},
		{"3|(1 2)|(0 1)", []string{"x"}, false},
		{"4|(1 2 3)|(0 1)", []string{"xxx", "yy", "xyxyxyxy"}, true},
		{"4|(1 2 3)|(0 1)", []string{"xxx", "yy", "xyxyxy"}, false},
	}
	for _, c := range cases {
		if yes, code := impl.SatisfiesRelations(mustParse(t, c.text), c.relations); yes != c.want || code != impl.ErrNone {
			t.Errorf("SatisfiesRelations(%s, %q) = %v, %d", c.text, c.relations, yes, code)
		}
	}
}

func TestNoRelations(t *testing.T) {
	star, _ := impl.StarDessin(3)
	for name, d := range notDessins() {
		for _, relations := range append(tooManyWords(), nil, []string{"x"}, []string{"z"}) {
			if yes, code := impl.SatisfiesRelations(d, relations); yes || code != impl.ErrInvalid {
				t.Errorf("SatisfiesRelations(%s, %q) = %v, %d", name, relations, yes, code)
			}
		}
	}
	for _, text := range notSpellings() {
		for _, relations := range withWord(text) {
			if yes, code := impl.SatisfiesRelations(star, relations); yes || code != impl.ErrInvalid {
				t.Errorf("SatisfiesRelations(star, %q) = %v, %d", relations, yes, code)
			}
		}
	}
	for _, relations := range tooManyWords() {
		if yes, code := impl.SatisfiesRelations(star, relations); yes || code != impl.ErrRange {
			t.Errorf("SatisfiesRelations(star, %q) = %v, %d", relations, yes, code)
		}
	}
}

// withWord returns lists with a text at some place, also one of more than 20.
func withWord(text string) [][]string {
	many := slices.Repeat([]string{"xxx"}, 20)
	return [][]string{
		{text}, {text, "x"}, {"xxx", "y", text}, append(slices.Clone(many), text), append([]string{text}, many...),
		append(slices.Repeat([]string{"y"}, 19), text),
	}
}
