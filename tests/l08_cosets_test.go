package tests

import (
	"slices"
	"testing"

	"loop.example/g01200/impl"
)

func TestTables(t *testing.T) {
	for _, table := range sampleTables() {
		given := withSpareNumbers(table)
		if !impl.IsTable(given) {
			t.Fatalf("IsTable(%v) = false", table)
		}
		checkKept(t, "IsTable", given, table)
	}
	for name, table := range notTables() {
		if impl.IsTable(table) {
			t.Errorf("IsTable(%s) = true", name)
		}
	}
	s := source(81)
	counts := map[bool]int{}
	for range 3000 {
		table := s.randomRows(1 + s.below(6))
		if s.below(2) == 0 {
			table[s.below(len(table))][s.below(2)] = int64(s.below(len(table)+2) - 1)
		}
		want := isTableByHand(table)
		counts[want]++
		if impl.IsTable(table) != want {
			t.Fatalf("IsTable(%v) = %v", table, !want)
		}
	}
	if counts[true] < 500 || counts[false] < 500 {
		t.Errorf("tables and other lists: %v", counts)
	}
}

// checkEnumeration compares the table with that by hand, and returns whether there is one.
func checkEnumeration(t *testing.T, relations []string, words []string) bool {
	t.Helper()
	want, _ := enumerateByHand(relations, words)
	code := int64(impl.ErrNone)
	if want == nil {
		code = impl.ErrLimit
	}
	givenRelations, givenWords := withSpareWords(relations), withSpareWords(words)
	table, got := impl.EnumerateCosets(givenRelations, givenWords)
	if !sameLists(table, want) || got != code {
		t.Fatalf("EnumerateCosets(%q, %q) = %v, %d; want %v, %d", relations, words, table, got, want, code)
	}
	checkWordsKept(t, "EnumerateCosets", givenRelations, relations)
	checkWordsKept(t, "EnumerateCosets", givenWords, words)
	if want != nil {
		checkCosets(t, table, relations, words)
	}
	return want != nil
}

// checkCosets checks what chapter 8 says of the table of relations and subgroup words.
func checkCosets(t *testing.T, table [][]int64, relations []string, words []string) {
	t.Helper()
	if !impl.IsTable(table) || !isTableByHand(table) || !sameLists(table, standardByHand(table)) || !fixesAll(table, relations) {
		t.Fatalf("EnumerateCosets(%q, %q) = %v", relations, words, table)
	}
	for _, word := range words {
		if leadByHand(table, 0, word) != 0 {
			t.Fatalf("EnumerateCosets(%q, %q) = %v, where %q does not lead 0 to itself", relations, words, table, word)
		}
	}
}

func TestCosetsOfShortRelations(t *testing.T) {
	var short []string
	for _, word := range spellings() {
		if len(word) <= 2 {
			short = append(short, word)
		}
	}
	counts := map[bool]int{}
	for i, first := range short {
		for j, second := range short {
			if (i+j)%2 == 0 {
				word := short[(i*j)%len(short)]
				counts[checkEnumeration(t, []string{first, second}, nil)]++
				counts[checkEnumeration(t, []string{first, second}, []string{word})]++
				counts[checkEnumeration(t, []string{word}, []string{first, second})]++
			}
		}
	}
	if counts[true] < 100 || counts[false] < 100 {
		t.Errorf("enumerations that end, and others: %v", counts)
	}
}

func TestCosetsOfRandomRelations(t *testing.T) {
	s := source(82)
	counts := map[bool]int{}
	for range 500 {
		var relations, words []string
		for range 1 + s.below(4) {
			word := s.spelling(1 + s.below(6))
			relations = append(relations, powerOfWord(word, 1+s.below(4)))
		}
		for range s.below(4) {
			words = append(words, s.spelling(s.below(12)))
		}
		counts[checkEnumeration(t, relations, words)]++
	}
	if counts[true] < 100 || counts[false] < 100 {
		t.Errorf("enumerations that end, and others: %v", counts)
	}
}

func TestCosetsOfLongWords(t *testing.T) {
	s := source(83)
	counts := map[bool]int{}
	for range 60 {
		var relations, words []string
		for range 1 + s.below(3) {
			word := s.spelling(1 + s.below(20))
			relations = append(relations, powerOfWord(word, 60/len(word)))
		}
		for range s.below(21) {
			words = append(words, s.spelling(20+s.below(41)))
		}
		if s.below(2) == 0 {
			relations = append(relations, []string{"xx", "xY", "xyXY", "yXX"}[s.below(4)])
		}
		counts[checkEnumeration(t, relations, words)]++
	}
	if counts[true] < 10 || counts[false] < 10 {
		t.Errorf("enumerations that end, and others: %v", counts)
	}
}

func TestKnownCosets(t *testing.T) {
	cases := []struct {
		relations []string
		words     []string
		want      [][]int64
	}{
		{[]string{"x", "y"}, nil, [][]int64{{0, 0}}},
		{nil, []string{"x", "y"}, [][]int64{{0, 0}}},
		{nil, []string{"X", "xY"}, [][]int64{{0, 0}}},
		{[]string{"xx", "y"}, nil, [][]int64{{1, 0}, {0, 1}}},
		{[]string{"x", "yy"}, nil, [][]int64{{0, 1}, {1, 0}}},
		{[]string{"xx", "xy"}, nil, [][]int64{{1, 1}, {0, 0}}},
		{[]string{"xx", "yy", "xyXY"}, nil, [][]int64{{1, 2}, {0, 3}, {3, 0}, {2, 1}}},
		{[]string{"xxx", "xY"}, nil, [][]int64{{1, 1}, {2, 2}, {0, 0}}},
		{[]string{"xxx", "xy"}, nil, [][]int64{{1, 2}, {2, 0}, {0, 1}}},
		{[]string{"xxx", "yy", "xyxy"}, []string{"y"}, [][]int64{{1, 0}, {2, 2}, {0, 1}}},
		{[]string{"xxx", "yy", "xyxy"}, []string{"x"}, [][]int64{{0, 1}, {1, 0}}},
		{[]string{"xxx", "yy", "xyxy"}, []string{"x", "y"}, [][]int64{{0, 0}}},
		{[]string{"xxx", "yy", "xyxy"}, []string{"xy"}, [][]int64{{1, 1}, {2, 0}, {0, 2}}},
		// the subgroup 3 Z of Z
		{[]string{"y"}, []string{"xxx"}, [][]int64{{1, 0}, {2, 1}, {0, 2}}},
		{[]string{"y"}, []string{"xxx", "XXXXXX", "xxxxxx"}, [][]int64{{1, 0}, {2, 1}, {0, 2}}},
		{[]string{"y"}, []string{"xxxx", "xxxxxx"}, [][]int64{{1, 0}, {0, 1}}},
		{nil, []string{"xx", "y", "xyX"}, [][]int64{{1, 0}, {0, 1}}},
		{[]string{"xyXY"}, []string{"xx", "y"}, [][]int64{{1, 0}, {0, 1}}},
		{[]string{"", "xX"}, []string{"yY", "", "x", "y", "xXyY"}, [][]int64{{0, 0}}},
	}
	for _, c := range cases {
		if table, code := impl.EnumerateCosets(c.relations, c.words); !sameLists(table, c.want) || code != impl.ErrNone {
			t.Errorf("EnumerateCosets(%q, %q) = %v, %d; want %v", c.relations, c.words, table, code, c.want)
		}
		checkEnumeration(t, c.relations, c.words)
	}
	checkOwnMemory(t, "EnumerateCosets", func() [][]int64 {
		table, _ := impl.EnumerateCosets([]string{"xx", "yyy", "xyxyxy"}, nil)
		return table
	})
}

// TestCosetsOfTriangleGroups: of a finite group that has as many elements as told, there are so
// many less cosets of a generator as this one has powers.
func TestCosetsOfTriangleGroups(t *testing.T) {
	exponents := []int64{0, 2, 3, 4, 5, 6, 7, 29, 30}
	finite := 0
	for _, a := range exponents {
		for _, b := range exponents {
			for _, c := range exponents {
				order := triangleOrder(a, b, c)
				relations, _ := impl.TriangleRelations(a, b, c)
				checkOrder(t, relations, order)
				if order == 0 {
					continue
				}
				finite++
				for i, n := range []int64{a, b, c} {
					word := []string{"x", "y", "xy"}[i]
					table, code := impl.EnumerateCosets(relations, []string{word})
					if int64(len(table)) != order/n || code != impl.ErrNone {
						t.Errorf("EnumerateCosets(%q, %q) has %d cosets, code %d", relations, word, len(table), code)
					}
					checkCosets(t, table, relations, []string{word})
				}
			}
		}
	}
	if finite != 37 {
		t.Errorf("%d finite triangle groups", finite)
	}
}

// triangleOrder is 0 for a group that is not finite.
func triangleOrder(a, b, c int64) int64 {
	if a == 0 || b == 0 || c == 0 {
		return 0
	}
	// The order is 2 / (1/a + 1/b + 1/c - 1).
	excess := b*c + a*c + a*b - a*b*c
	if excess <= 0 {
		return 0
	}
	return 2 * a * b * c / excess
}

// checkOrder expects ErrLimit for the order 0.
func checkOrder(t *testing.T, relations []string, want int64) {
	t.Helper()
	code := int64(impl.ErrNone)
	if want == 0 {
		code = impl.ErrLimit
	}
	given := withSpareWords(relations)
	if order, got := impl.GroupOrderOf(given); order != want || got != code {
		t.Errorf("GroupOrderOf(%q) = %d, %d; want %d, %d", relations, order, got, want, code)
	}
	checkWordsKept(t, "GroupOrderOf", given, relations)
}

func TestGroupOrderOf(t *testing.T) {
	for n := 1; n <= 60; n++ {
		checkOrder(t, []string{powerOfWord("x", n), "y"}, int64(n))
		checkOrder(t, []string{"X", powerOfWord("Y", n)}, int64(n))
		checkOrder(t, []string{powerOfWord("xy", n/2) + powerOfWord("x", n%2), "xY"}, int64(n))
	}
	cases := []struct {
		name      string
		relations []string
		want      int64
	}{
		{"the free group", nil, 0},
		{"the free group again", []string{"", "xX", "yxXY"}, 0},
		{"the whole numbers", []string{"y"}, 0},
		{"pairs of whole numbers", []string{"xyXY"}, 0},
		{"the modular group", []string{"xx", "yyy"}, 0},
		{"one element", []string{"x", "y"}, 1},
		{"one element again", []string{"xyXYY", "yxYXX"}, 1},
		{"quaternions", []string{"xxxx", "xxYY", "Yxyx"}, 8},
		{"quaternions by two relations", []string{"xyxY", "yxyX"}, 8},
		{"SL(2, 3)", []string{"xxxYYY", "xxxYXYX"}, 24},
		{"Heisenberg's group of 27", []string{"xxx", "yyy", "xyxyxy", "xYxYxY"}, 27},
		{"the binary octahedral group", []string{"xxxYYYY", "xxxYXYX"}, 48},
		{"a cyclic group of 100", []string{powerOfWord("x", 10) + "Y", powerOfWord("y", 10)}, 100},
		{"another group of 100", []string{powerOfWord("x", 10), powerOfWord("y", 10), "xyXY"}, 100},
		{"a dihedral group of 100", []string{"xx", powerOfWord("y", 50), "xyxy"}, 100},
		{"a cyclic group of 101", []string{powerOfWord("x", 10) + "Y", powerOfWord("y", 10) + "x"}, 0},
		{"a dihedral group of 102", []string{"xx", powerOfWord("y", 51), "xyxy"}, 0},
		{"a group of 110", []string{powerOfWord("x", 10), powerOfWord("y", 11), "xyXY"}, 0},
		{"SL(2, 5), which has 120", []string{"xxxYYYYY", "xxxYXYX"}, 0},
		{"PSL(2, 7), which has 168", []string{"xx", "yyy", powerOfWord("xy", 7), powerOfWord("xyxY", 4)}, 0},
	}
	for _, c := range cases {
		t.Run(c.name, func(t *testing.T) { checkOrder(t, c.relations, c.want) })
	}
}

// TestCosetsOfGreatGroups: there may be few cosets in a group that has too many elements.
func TestCosetsOfGreatGroups(t *testing.T) {
	cases := []struct {
		relations []string
		words     []string
		want      int
	}{
		{[]string{"xxxYYYYY", "xxxYXYX"}, []string{"x"}, 20},
		{[]string{"xxxYYYYY", "xxxYXYX"}, []string{"y"}, 12},
		{[]string{"xxxYYYYY", "xxxYXYX"}, []string{"xxx"}, 60},
		{[]string{"xx", "yyy", powerOfWord("xy", 7), powerOfWord("xyxY", 4)}, []string{"xy"}, 24},
		{[]string{"xx", "yyy", powerOfWord("xy", 7), powerOfWord("xyxY", 4)}, []string{"y"}, 56},
		{[]string{"xx", "yyy", powerOfWord("xy", 7), powerOfWord("xyxY", 4)}, []string{"x"}, 84},
		{[]string{"xyXY"}, []string{powerOfWord("x", 10), powerOfWord("y", 10)}, 100},
		{[]string{"xyXY"}, []string{powerOfWord("x", 10) + "Y", powerOfWord("y", 10)}, 100},
		{[]string{"xyXY"}, []string{powerOfWord("x", 10) + "Y", powerOfWord("y", 10) + "x"}, 0},
		{[]string{"xyXY"}, []string{powerOfWord("x", 7), powerOfWord("y", 15)}, 0},
		{[]string{"y"}, []string{powerOfWord("x", 60)}, 60},
		{[]string{"y"}, []string{powerOfWord("x", 60), powerOfWord("x", 42)}, 6},
		{[]string{"y"}, nil, 0},
		{nil, []string{"x"}, 0},
	}
	for _, c := range cases {
		table, code := impl.EnumerateCosets(c.relations, c.words)
		if len(table) != c.want || (code == impl.ErrNone) != (c.want > 0) {
			t.Errorf("EnumerateCosets(%q, %q) has %d cosets, code %d; want %d", c.relations, c.words, len(table), code, c.want)
		}
		checkEnumeration(t, c.relations, c.words)
	}
}

// limitCase has the greatest number of cosets ahead of which one is defined in its enumeration,
// and how many cosets there would be in the end.
type limitCase struct {
	relations []string
	words     []string
	greatest  int
	cosets    int
}

func limitCases() []limitCase {
	return []limitCase{
		{[]string{"YYxyxyYx", "XYxYYyXYxYYy"}, nil, 400, 60},
		{[]string{"XYYxyXy", "YXXXYyXxxYXXXYyXxx"}, nil, 400, 2},
		{[]string{"YXyyxyXyx", "yXyyXyyXy", "XXXX"}, []string{"XYXYX"}, 400, 1},
		{[]string{"yyXYYXyyyXYYXy", "XXYYXyXyy"}, []string{"yyy"}, 400, 4},
		{[]string{"xxxxxx", "YYYxyyxYYYYxyyxY", "xyXyxY"}, []string{""}, 400, 6},
		{[]string{"XxYXXXXXxYXXXX", "xYXyXyx"}, nil, 401, 72},
		{[]string{"yxyYxYYYX", "yyXYyyXYyyXY"}, nil, 401, 3},
		{[]string{"yYyxyYxxyYyxyYxx", "Yxxyyxxxx"}, nil, 401, 42},
		{[]string{"YxyXYxY", "XyXXXXyXXX", "xyyxYxyyxY"}, []string{""}, 401, 6},
		{[]string{"XYXYXYXYXYXY", "yXXyxy", "XYXyyXYXyy"}, nil, 401, 2},
	}
}

// TestTooLargeEnumerations: 400 cosets are not too many to define one more, and 401 are.
func TestTooLargeEnumerations(t *testing.T) {
	for _, c := range limitCases() {
		_, greatest := enumerateByHand(c.relations, c.words)
		if greatest != c.greatest {
			t.Errorf("the enumeration of %q and %q has %d cosets; want %d", c.relations, c.words, greatest, c.greatest)
		}
		want, wanted := c.cosets, int64(impl.ErrNone)
		if c.greatest > 400 {
			want, wanted = 0, impl.ErrLimit
		}
		table, code := impl.EnumerateCosets(c.relations, c.words)
		if len(table) != want || code != wanted {
			t.Errorf("EnumerateCosets(%q, %q) has %d cosets, code %d; want %d, %d", c.relations, c.words, len(table), code, want, wanted)
		}
		checkEnumeration(t, c.relations, c.words)
	}
}

// TestManyCosetsOfSubgroupWords: while cosets are defined for the subgroup words, no number of them
// is too large; it counts what is left when nothing new follows.
func TestManyCosetsOfSubgroupWords(t *testing.T) {
	s := source(86)
	for _, relations := range [][]string{{"x", "y"}, {"Y", "xx"}, {"xy", "xxx"}, {"xyXY", "xx", "yyy"}} {
		var words []string
		for range 20 {
			words = append(words, s.spelling(60))
		}
		if count := firstCosets(words).count(); count < 500 {
			t.Errorf("only %d cosets are defined for %q", count, words)
		}
		if !checkEnumeration(t, relations, words) {
			t.Errorf("EnumerateCosets(%q, %q) is too large", relations, words)
		}
	}
	many := []string{powerOfWord("x", 60), powerOfWord("xy", 30), powerOfWord("xyy", 20), powerOfWord("xxy", 20), powerOfWord("xyyy", 15), powerOfWord("y", 60)}
	for _, word := range many[1:5] {
		many = append(many, inverseByLetters(word)[1:]+"x", inverseByLetters(word)[1:]+"Y")
	}
	checkEnumeration(t, []string{"xY", "xxxx"}, many)
	checkEnumeration(t, nil, many)
}

func TestNoCosets(t *testing.T) {
	good := []string{"xx", "yyy", "xyxy"}
	check := func(relations []string, words []string, want int64) {
		t.Helper()
		if table, code := impl.EnumerateCosets(relations, words); len(table) != 0 || code != want {
			t.Errorf("EnumerateCosets(%q, %q) = %v, %d; want %d", relations, words, table, code, want)
		}
		if len(words) > 0 {
			return
		}
		if order, code := impl.GroupOrderOf(relations); order != 0 || code != want {
			t.Errorf("GroupOrderOf(%q) = %d, %d; want %d", relations, order, code, want)
		}
	}
	for _, text := range notSpellings() {
		for _, list := range withWord(text) {
			check(list, nil, impl.ErrInvalid)
			check(list, []string{"x", "y"}, impl.ErrInvalid)
			check(good, list, impl.ErrInvalid)
			check(list, list, impl.ErrInvalid)
		}
	}
	for _, list := range tooManyWords() {
		check(list, nil, impl.ErrRange)
		check(list, []string{"x", "y"}, impl.ErrRange)
		check(list, []string{"x", "z"}, impl.ErrInvalid)
		check([]string{"z"}, list, impl.ErrInvalid)
		check(good, list, impl.ErrRange)
		check(nil, list, impl.ErrRange)
		check(list, list, impl.ErrRange)
	}
	for n := 19; n <= 20; n++ {
		list := append(slices.Repeat([]string{"xx"}, n-1), "y")
		if table, code := impl.EnumerateCosets(list, list); !sameLists(table, [][]int64{{1, 0}, {0, 1}}) || code != impl.ErrNone {
			t.Errorf("EnumerateCosets of %d relations and words = %v, %d", n, table, code)
		}
		checkOrder(t, list, 2)
	}
}
