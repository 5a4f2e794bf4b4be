package tests

import (
	"math"
	"slices"
	"strconv"
	"testing"

	"loop.example/g01200/impl"
)

// knownTables are tables with the texts of their dessins.
func knownTables() map[string][][]int64 {
	return map[string][][]int64{
		"1|()|()":                   {{0, 0}},
		"2|(0 1)|()":                {{1, 0}, {0, 1}},
		"2|()|(0 1)":                {{0, 1}, {1, 0}},
		"3|(0 1 2)|(0 1)":           {{1, 1}, {2, 0}, {0, 2}},
		"3|(0 2 1)|(0 1)":           {{2, 1}, {0, 0}, {1, 2}},
		"4|(1 2)|(0 1)(2 3)":        {{0, 1}, {2, 0}, {1, 3}, {3, 2}},
		"4|(0 1)(2 3)|(0 2)(1 3)":   {{1, 2}, {0, 3}, {3, 0}, {2, 1}},
		"5|(0 4 3 2 1)|(0 1 2 3 4)": {{4, 1}, {0, 2}, {1, 3}, {2, 4}, {3, 0}},
	}
}

func TestDessinOfTable(t *testing.T) {
	for text, table := range knownTables() {
		if d, code := impl.DessinOfTable(table); d != mustParse(t, text) || code != impl.ErrNone {
			t.Errorf("DessinOfTable(%v) = %v, %d; want %s", table, d, code, text)
		}
	}
	for _, want := range sampleDessins() {
		table := rowsOf(want)
		given := withSpareNumbers(table)
		if d, code := impl.DessinOfTable(given); d != want || code != impl.ErrNone {
			t.Fatalf("DessinOfTable(%v) = %v, %d", table, d, code)
		}
		checkKept(t, "DessinOfTable", given, table)
	}
}

func TestNoDessinOfTable(t *testing.T) {
	for name, table := range notTables() {
		if d, code := impl.DessinOfTable(table); d != (impl.Dessin{}) || code != impl.ErrInvalid {
			t.Errorf("DessinOfTable(%s) = %v, %d", name, d, code)
		}
	}
	large := 0
	for _, table := range sampleTables() {
		if len(table) <= 16 {
			continue
		}
		large++
		if d, code := impl.DessinOfTable(table); d != (impl.Dessin{}) || code != impl.ErrLimit {
			t.Errorf("DessinOfTable(%v) = %v, %d", table, d, code)
		}
	}
	if large < 20 {
		t.Errorf("only %d tables have more than 16 cosets", large)
	}
	for n := int64(15); n <= 18; n++ {
		d, code := impl.DessinOfTable(roundRows(n))
		band, bandCode := impl.BandDessin(n)
		if d != band || (code == impl.ErrLimit) != (bandCode == impl.ErrRange) {
			t.Errorf("DessinOfTable of %d cosets = %v, %d", n, d, code)
		}
	}
}

func TestTableOfDessin(t *testing.T) {
	for _, d := range sampleDessins() {
		for x := range d.Darts {
			want := rowsOf(renamedByHand(d, namingByHand(d, x)))
			table, code := impl.TableOfDessin(d, x)
			if !sameLists(table, want) || code != impl.ErrNone {
				t.Fatalf("TableOfDessin(%v, %d) = %v, %d; want %v", d, x, table, code, want)
			}
			if !impl.IsTable(table) || !sameLists(table, standardByHand(table)) {
				t.Fatalf("TableOfDessin(%v, %d) = %v is not standard", d, x, table)
			}
		}
	}
	chain, _ := impl.ChainDessin(4)
	for x, want := range [][][]int64{
		{{0, 1}, {2, 0}, {1, 3}, {3, 2}},
		{{1, 2}, {0, 3}, {2, 0}, {3, 1}},
		{{1, 2}, {0, 3}, {2, 0}, {3, 1}},
		{{0, 1}, {2, 0}, {1, 3}, {3, 2}},
	} {
		if table, code := impl.TableOfDessin(chain, int64(x)); !sameLists(table, want) || code != impl.ErrNone {
			t.Errorf("TableOfDessin(chain of 4, %d) = %v, %d; want %v", x, table, code, want)
		}
	}
	checkOwnMemory(t, "TableOfDessin", func() [][]int64 {
		table, _ := impl.TableOfDessin(chain, 2)
		return table
	})
}

func TestNoTableOfDessin(t *testing.T) {
	for name, d := range notDessins() {
		for _, x := range []int64{0, -1, 1, 16} {
			if table, code := impl.TableOfDessin(d, x); len(table) != 0 || code != impl.ErrInvalid {
				t.Errorf("TableOfDessin(%s, %d) = %v, %d", name, x, table, code)
			}
		}
	}
	for n := int64(1); n <= 16; n++ {
		star, _ := impl.StarDessin(n)
		for _, x := range []int64{-1, n, n + 1, -n, 256, 1 << 32, math.MinInt64, math.MaxInt64} {
			if table, code := impl.TableOfDessin(star, x); len(table) != 0 || code != impl.ErrRange {
				t.Errorf("TableOfDessin(star of %d, %d) = %v, %d", n, x, table, code)
			}
		}
	}
}

// TestCosetsOfStabiliserWordsAreTheDarts is the second part of promise 8, and of the Guarantee.
func TestCosetsOfStabiliserWordsAreTheDarts(t *testing.T) {
	s := source(87)
	for _, d := range append(sampleDessins(), groupDessins(t)...) {
		words, wordsCode := impl.StabiliserWords(d)
		want, tableCode := impl.TableOfDessin(d, 0)
		table, code := impl.EnumerateCosets(nil, words)
		if !sameLists(table, want) || int64(len(table)) != d.Darts || max(code, wordsCode, tableCode) != impl.ErrNone {
			t.Fatalf("EnumerateCosets(nil, %q) = %v, %d; want %v", words, table, code, want)
		}
		form, code := impl.DessinOfTable(table)
		if form != renamedByHand(d, namingByHand(d, 0)) || code != impl.ErrNone {
			t.Fatalf("DessinOfTable(%v) = %v, %d for the stabiliser words of %v", table, form, code, d)
		}
		if alike, code := impl.AreAlike(d, form); !alike || code != impl.ErrNone {
			t.Fatalf("%v and %v are not alike", d, form)
		}
		// Relations that the dessin satisfies change nothing.
		word := s.spelling(1 + s.below(3))
		order, _ := impl.OrderOf(placesOfWord(d, word), d.Darts)
		if order*int64(len(word)) > 60 {
			continue
		}
		relations := []string{powerOfWord(word, int(order))}
		if yes, code := impl.SatisfiesRelations(d, relations); !yes || code != impl.ErrNone {
			t.Fatalf("SatisfiesRelations(%v, %q) = %v, %d", d, relations, yes, code)
		}
		if table, code := impl.EnumerateCosets(relations, words); !sameLists(table, want) || code != impl.ErrNone {
			t.Fatalf("EnumerateCosets(%q, %q) = %v, %d; want %v", relations, words, table, code, want)
		}
	}
}

// TestCosetsWithFewerStabiliserWords: relations make one coset of several darts.
func TestCosetsWithFewerStabiliserWords(t *testing.T) {
	smaller := 0
	for i, d := range sampleDessins() {
		if i%5 != 0 {
			continue
		}
		words, _ := impl.StabiliserWords(d)
		for _, relations := range [][]string{{"xx"}, {"xyXY"}, {"xY"}, {"xxx", "yy"}} {
			table, code := impl.EnumerateCosets(relations, words)
			if code != impl.ErrNone {
				t.Fatalf("EnumerateCosets(%q, %q): code %d", relations, words, code)
			}
			checkCosets(t, table, relations, words)
			quotient, _ := impl.DessinOfTable(table)
			if yes, code := impl.SatisfiesRelations(quotient, relations); !yes || code != impl.ErrNone {
				t.Fatalf("SatisfiesRelations(%v, %q) = %v, %d", quotient, relations, yes, code)
			}
			if maps, code := impl.MorphismsOf(d, quotient); len(maps) == 0 || code != impl.ErrNone {
				t.Fatalf("no morphism leads from %v to %v", d, quotient)
			}
			if quotient.Darts < d.Darts {
				smaller++
			}
		}
	}
	if smaller < 500 {
		t.Errorf("only %d dessins have smaller quotients", smaller)
	}
}

// formsOf are the forms of all dessins with n darts: the dessins whose naming from 0 changes
// nothing.
func formsOf(n int64) []impl.Dessin {
	return slices.DeleteFunc(allDessins(n), func(d impl.Dessin) bool { return namingByHand(d, 0) != staying(n) })
}

func TestCountOfIndex(t *testing.T) {
	lists := relationLists()
	for n := int64(1); n <= 5; n++ {
		forms := formsOf(n)
		for _, relations := range lists {
			want := int64(0)
			for _, d := range forms {
				if fixesAll(rowsOf(d), relations) {
					want++
				}
			}
			given := withSpareWords(relations)
			if count, code := impl.CountOfIndex(given, n); count != want || code != impl.ErrNone {
				t.Errorf("CountOfIndex(%q, %d) = %d, %d; want %d", relations, n, count, code, want)
			}
			checkWordsKept(t, "CountOfIndex", given, relations)
		}
	}
}

func TestKnownCountsOfIndex(t *testing.T) {
	cases := map[string]struct {
		relations []string
		want      []int64
	}{
		"the free group":          {nil, []int64{1, 3, 13, 71, 461}},
		"the whole numbers":       {[]string{"y"}, []int64{1, 1, 1, 1, 1}},
		"pairs of whole numbers":  {[]string{"xyXY"}, []int64{1, 3, 4, 7, 6}},
		"the modular group":       {[]string{"xx", "yyy"}, []int64{1, 1, 4, 8, 5}},
		"two reflections":         {[]string{"xx", "yy"}, []int64{1, 3, 3, 5, 5}},
		"six elements":            {[]string{"xx", "yy", "xyxyxy"}, []int64{1, 1, 3, 0, 0}},
		"a cyclic group of 4":     {[]string{"xxxx", "y"}, []int64{1, 1, 0, 1, 0}},
		"one element":             {[]string{"x", "y"}, []int64{1, 0, 0, 0, 0}},
		"the rotations of a cube": {[]string{"xx", "yyy", "xyxyxyxy"}, []int64{1, 1, 3, 4, 0}},
		"the icosahedron":         {[]string{"xx", "yyy", "xyxyxyxyxy"}, []int64{1, 0, 0, 0, 5}},
	}
	for name, c := range cases {
		for i, want := range c.want {
			if count, code := impl.CountOfIndex(c.relations, int64(i+1)); count != want || code != impl.ErrNone {
				t.Errorf("%s: CountOfIndex(%q, %d) = %d, %d; want %d", name, c.relations, i+1, count, code, want)
			}
		}
	}
}

func TestNoCountOfIndex(t *testing.T) {
	check := func(relations []string, n int64, want int64) {
		t.Helper()
		if count, code := impl.CountOfIndex(relations, n); count != 0 || code != want {
			t.Errorf("CountOfIndex(%q, %d) = %d, %d; want code %d", relations, n, count, code, want)
		}
	}
	notIndices := []int64{0, -1, 6, 7, 16, 17, -5, 256, 257, 1 << 32, 1<<32 + 1, math.MinInt64, math.MaxInt64}
	for _, n := range append(notIndices, 1, 5) {
		for _, text := range notSpellings() {
			for _, list := range withWord(text) {
				check(list, n, impl.ErrInvalid)
			}
		}
		for _, list := range tooManyWords() {
			check(list, n, impl.ErrRange)
		}
	}
	for _, n := range notIndices {
		for _, list := range relationLists() {
			check(list, n, impl.ErrRange)
		}
	}
}

// TestSubgroupsOfTheFreeGroup is the first part of promise 15.
func TestSubgroupsOfTheFreeGroup(t *testing.T) {
	for n := int64(1); n <= 5; n++ {
		all, allCode := impl.AllDessins(n)
		tables := map[string]impl.Dessin{}
		for _, d := range all {
			for x := range n {
				table, code := impl.TableOfDessin(d, x)
				if code != impl.ErrNone || allCode != impl.ErrNone {
					t.Fatalf("TableOfDessin(%v, %d): code %d", d, x, code)
				}
				tables[tableText(table)] = d
			}
		}
		subgroups, subgroupsCode := impl.CountSubgroups(n)
		count, code := impl.CountOfIndex(nil, n)
		if int64(len(tables)) != subgroups || count != subgroups || max(code, subgroupsCode) != impl.ErrNone {
			t.Errorf("of %d darts there are %d tables, %d subgroups and %d of this index", n, len(tables), subgroups, count)
		}
		for _, relations := range relationLists() {
			want := int64(0)
			for _, d := range tables {
				if yes, _ := impl.SatisfiesRelations(d, relations); yes {
					want++
				}
			}
			if count, code := impl.CountOfIndex(relations, n); count != want || code != impl.ErrNone {
				t.Errorf("CountOfIndex(%q, %d) = %d, %d; want %d", relations, n, count, code, want)
			}
		}
	}
}

func tableText(table [][]int64) string {
	text := ""
	for _, row := range table {
		text += strconv.FormatInt(row[0], 10) + "," + strconv.FormatInt(row[1], 10) + " "
	}
	return text
}

// TestCosetTablesSatisfyTheirRelations is the second part of promise 15, and of the Guarantee.
func TestCosetTablesSatisfyTheirRelations(t *testing.T) {
	s := source(88)
	found := 0
	for range 4000 {
		var relations, words []string
		for range 1 + s.below(4) {
			relations = append(relations, powerOfWord(s.spelling(1+s.below(5)), 1+s.below(5)))
		}
		for range s.below(5) {
			words = append(words, s.spelling(s.below(15)))
		}
		table, code := impl.EnumerateCosets(relations, words)
		if code != impl.ErrNone {
			continue
		}
		checkCosets(t, table, relations, words)
		d, code := impl.DessinOfTable(table)
		if len(table) > 16 {
			continue
		}
		found++
		yes, yesCode := impl.SatisfiesRelations(d, relations)
		if !yes || max(code, yesCode) != impl.ErrNone {
			t.Fatalf("SatisfiesRelations(%v, %q) = %v, %d", d, relations, yes, yesCode)
		}
		if own, code := impl.TableOfDessin(d, 0); !sameLists(own, table) || code != impl.ErrNone {
			t.Fatalf("TableOfDessin(%v, 0) = %v, %d; want %v", d, own, code, table)
		}
	}
	if found < 1000 {
		t.Errorf("only %d tables are those of dessins", found)
	}
}

// TestIndicesOfFiniteGroups: the tables of a finite group are those of the cosets of its subgroups.
func TestIndicesOfFiniteGroups(t *testing.T) {
	for _, relations := range [][]string{{"xx", "yy", "xyxyxy"}, {"xxxx", "xxYY", "Yxyx"}, {"xx", "yyy", "xyxyxyxy"}, {"xxxx", "y"}} {
		order, _ := impl.GroupOrderOf(relations)
		for n := int64(1); n <= 5; n++ {
			count, code := impl.CountOfIndex(relations, n)
			if code != impl.ErrNone || count > 0 && order%n != 0 {
				t.Errorf("CountOfIndex(%q, %d) = %d, %d in a group of %d", relations, n, count, code, order)
			}
			for _, d := range formsOf(n) {
				if !fixesAll(rowsOf(d), relations) {
					continue
				}
				words, _ := impl.StabiliserWords(d)
				if table, code := impl.EnumerateCosets(relations, words); !sameLists(table, rowsOf(d)) || code != impl.ErrNone {
					t.Errorf("EnumerateCosets(%q, %q) = %v, %d; want %v", relations, words, table, code, rowsOf(d))
				}
			}
		}
	}
}
