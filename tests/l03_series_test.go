package tests

import (
	"maps"
	"slices"
	"testing"

	"loop.example/g01200/impl"
)

// seriesByHand takes all pairs of permutations of each group.
func seriesByHand(n int64, group map[impl.Places]bool) []int64 {
	orders := []int64{int64(len(group))}
	for {
		found := map[impl.Places]bool{}
		for p := range group {
			for q := range group {
				back := thenByHand(backByHand(p, n), backByHand(q, n), n)
				found[thenByHand(thenByHand(p, q, n), back, n)] = true
			}
		}
		group = groupByHand(n, slices.Collect(maps.Keys(found))...)
		if int64(len(group)) == orders[len(orders)-1] {
			return orders
		}
		orders = append(orders, int64(len(group)))
	}
}

func TestDerivedSeries(t *testing.T) {
	lengths := map[int]int{}
	for _, d := range groupDessins(t) {
		series, code := impl.DerivedSeries(d)
		if len(series) == 0 || code != impl.ErrNone {
			t.Fatalf("DerivedSeries(%v) = %v, %d", d, series, code)
		}
		if order, _ := impl.GroupOrder(d); series[0] != order {
			t.Errorf("DerivedSeries(%v) = %v, and the order is %d", d, series, order)
		}
		for i := 1; i < len(series); i++ {
			if series[i] >= series[i-1] || series[i-1]%series[i] != 0 {
				t.Errorf("DerivedSeries(%v) = %v", d, series)
			}
		}
		if yes, code := impl.IsSolvable(d); yes != (series[len(series)-1] == 1) || code != impl.ErrNone {
			t.Errorf("IsSolvable(%v) = %v, %d, and the series is %v", d, yes, code, series)
		}
		if group := groupOfDessin(d); group != nil && len(group) <= 130 {
			lengths[len(series)]++
			if want := seriesByHand(d.Darts, group); !slices.Equal(series, want) {
				t.Fatalf("DerivedSeries(%v) = %v, not %v", d, series, want)
			}
		}
	}
	if lengths[1] == 0 || lengths[2] == 0 || lengths[3] == 0 || lengths[4] == 0 {
		t.Errorf("lengths of the series that are tested: %v", lengths)
	}
}

func TestDerivedSeriesOfKnownGroups(t *testing.T) {
	for _, g := range knownGroups() {
		d := mustParse(t, g.text)
		if series, code := impl.DerivedSeries(d); !slices.Equal(series, g.series) || code != impl.ErrNone {
			t.Errorf("%s: DerivedSeries = %v, %d", g.name, series, code)
		}
		if yes, code := impl.IsSolvable(d); yes != (g.series[len(g.series)-1] == 1) || code != impl.ErrNone {
			t.Errorf("%s: IsSolvable = %v, %d", g.name, yes, code)
		}
	}
}

// TestDerivedSeriesOfAllPermutations: behind all of five and more are the even ones, and nothing
// behind these.
func TestDerivedSeriesOfAllPermutations(t *testing.T) {
	factorial := int64(24)
	for n := int64(5); n <= 16; n++ {
		factorial *= n
		all, _ := impl.StarDessin(n)
		even := all
		all.White[0], all.White[1] = 1, 0
		even.White[0], even.White[1], even.White[2] = 1, 2, 0
		if n%2 == 0 {
			even.Black = thenByHand(even.Black, all.White, n)
		}
		if series, code := impl.DerivedSeries(all); !slices.Equal(series, []int64{factorial, factorial / 2}) || code != impl.ErrNone {
			t.Errorf("DerivedSeries(%v) = %v, %d", all, series, code)
		}
		if series, code := impl.DerivedSeries(even); !slices.Equal(series, []int64{factorial / 2}) || code != impl.ErrNone {
			t.Errorf("DerivedSeries(%v) = %v, %d", even, series, code)
		}
		for _, d := range []impl.Dessin{all, even} {
			if yes, code := impl.IsSolvable(d); yes || code != impl.ErrNone {
				t.Errorf("IsSolvable(%v) = %v, %d", d, yes, code)
			}
		}
	}
}

func TestDerivedSeriesOfStarsAndChains(t *testing.T) {
	for n := int64(2); n <= 16; n++ {
		star, _ := impl.StarDessin(n)
		chain, _ := impl.ChainDessin(n)
		turns := []int64{2 * n, n, 1}
		if n%2 == 0 {
			turns[1] = n / 2
		}
		if n == 2 {
			turns = []int64{2, 1}
		}
		for _, c := range []struct {
			d    impl.Dessin
			want []int64
		}{{star, []int64{n, 1}}, {chain, turns}} {
			if series, code := impl.DerivedSeries(c.d); !slices.Equal(series, c.want) || code != impl.ErrNone {
				t.Errorf("DerivedSeries(%v) = %v, %d", c.d, series, code)
			}
			if yes, code := impl.IsSolvable(c.d); !yes || code != impl.ErrNone {
				t.Errorf("IsSolvable(%v) = %v, %d", c.d, yes, code)
			}
		}
	}
}

// typesByHand counts the permutations of a group by their types.
func typesByHand(n int64, group map[impl.Places]bool) ([][]int64, []int64) {
	countOf := map[impl.Places]int64{}
	for p := range group {
		var lengths impl.Places
		for i, length := range typeByHand(p, n) {
			lengths[i] = byte(length)
		}
		countOf[lengths]++
	}
	keys := slices.SortedFunc(maps.Keys(countOf), func(a, b impl.Places) int { return slices.Compare(a[:], b[:]) })
	var types [][]int64
	var counts []int64
	for _, key := range keys {
		list := listOf(key, 16)
		types = append(types, list[:len(list)-zerosAtEnd(list)])
		counts = append(counts, countOf[key])
	}
	return types, counts
}

func zerosAtEnd(list []int64) int {
	n := 0
	for n < len(list) && list[len(list)-1-n] == 0 {
		n++
	}
	return n
}

func TestElementTypes(t *testing.T) {
	told, refused := 0, 0
	for _, d := range groupDessins(t) {
		types, counts, code := impl.ElementTypes(d)
		group := groupOfDessin(d)
		if group == nil || len(group) > 5000 {
			refused++
			if len(types) != 0 || len(counts) != 0 || code != impl.ErrLimit {
				t.Fatalf("ElementTypes(%v) = %v, %v, %d", d, types, counts, code)
			}
			continue
		}
		told++
		wantTypes, wantCounts := typesByHand(d.Darts, group)
		if !sameLists(types, wantTypes) || !slices.Equal(counts, wantCounts) || code != impl.ErrNone {
			t.Fatalf("ElementTypes(%v) = %v, %v, %d", d, types, counts, code)
		}
	}
	if told < 300 || refused < 50 {
		t.Errorf("only %d groups are told, and %d refused", told, refused)
	}
}

func TestElementTypesOfKnownGroups(t *testing.T) {
	cases := []struct {
		text   string
		types  [][]int64
		counts []int64
	}{
		{"1|()|()", [][]int64{{1}}, []int64{1}},
		{"2|()|(0 1)", [][]int64{{1, 1}, {2}}, []int64{1, 1}},
		{"3|(0 1 2)|()", [][]int64{{1, 1, 1}, {3}}, []int64{1, 2}},
		{"3|(0 1 2)|(0 1)", [][]int64{{1, 1, 1}, {2, 1}, {3}}, []int64{1, 3, 2}},
		{"4|(0 1 2 3)|(0 1)", [][]int64{{1, 1, 1, 1}, {2, 1, 1}, {2, 2}, {3, 1}, {4}}, []int64{1, 6, 3, 8, 6}},
		{"5|(0 1 2 3 4)|(0 1 2)", [][]int64{{1, 1, 1, 1, 1}, {2, 2, 1}, {3, 1, 1}, {5}}, []int64{1, 15, 20, 24}},
		{"7|(0 1 2 3 4 5 6)|(0 1)(2 5)", [][]int64{{1, 1, 1, 1, 1, 1, 1}, {2, 2, 1, 1, 1}, {3, 3, 1}, {4, 2, 1}, {7}}, []int64{1, 21, 56, 42, 48}},
	}
	for _, c := range cases {
		types, counts, code := impl.ElementTypes(mustParse(t, c.text))
		if !sameLists(types, c.types) || !slices.Equal(counts, c.counts) || code != impl.ErrNone {
			t.Errorf("ElementTypes(%s) = %v, %v, %d", c.text, types, counts, code)
		}
	}
}

// TestElementTypesAtLimit: 4860 permutations are few enough; 5040 are too many, as are 16 factorial.
func TestElementTypesAtLimit(t *testing.T) {
	told := map[int64]bool{}
	for _, g := range knownGroups() {
		types, counts, code := impl.ElementTypes(mustParse(t, g.text))
		sum := int64(0)
		for _, n := range counts {
			sum += n
		}
		if g.order > 5000 {
			if len(types) != 0 || len(counts) != 0 || code != impl.ErrLimit {
				t.Errorf("%s: ElementTypes = %v, %v, %d", g.name, types, counts, code)
			}
			continue
		}
		told[g.order] = true
		if sum != g.order || len(types) != len(counts) || counts[0] != 1 || code != impl.ErrNone {
			t.Errorf("%s: ElementTypes = %v, %v, %d", g.name, types, counts, code)
		}
	}
	if !told[4860] {
		t.Error("the group of 4860 is not tested")
	}
	for _, text := range []string{"7|(0 1 2 3 4 5 6)|(0 1)", "16|(0 1 2 3 4 5 6 7 8 9 10 11 12 13 14 15)|(0 1)"} {
		if types, counts, code := impl.ElementTypes(mustParse(t, text)); len(types) != 0 || len(counts) != 0 || code != impl.ErrLimit {
			t.Errorf("ElementTypes(%s) = %v, %v, %d", text, types, counts, code)
		}
	}
}

func TestSeriesAndTypesAreNewMemory(t *testing.T) {
	d := mustParse(t, "4|(0 1 2 3)|(0 1)")
	checkOwnMemory(t, "DerivedSeries", func() [][]int64 {
		series, _ := impl.DerivedSeries(d)
		return [][]int64{series}
	})
	checkOwnMemory(t, "ElementTypes", func() [][]int64 {
		types, counts, _ := impl.ElementTypes(d)
		return append(types, counts)
	})
}

// closureByHand has the permutations of the group as darts, and counts its vertices and faces.
func closureByHand(d impl.Dessin, group map[impl.Places]bool) int64 {
	sum := -int64(len(group))
	for _, p := range []impl.Places{d.Black, d.White, faceByHand(d)} {
		seen := map[impl.Places]bool{}
		for q := range group {
			if !seen[q] {
				sum++
			}
			for !seen[q] {
				seen[q] = true
				q = thenByHand(q, p, d.Darts)
			}
		}
	}
	return 1 - sum/2
}

func TestClosureGenus(t *testing.T) {
	counts := map[bool]int{}
	for _, d := range groupDessins(t) {
		genus, code := impl.ClosureGenus(d)
		own, _ := impl.GenusOf(d)
		if genus < own || code != impl.ErrNone {
			t.Errorf("ClosureGenus(%v) = %d, %d, and the genus is %d", d, genus, code, own)
		}
		if group := groupOfDessin(d); group != nil {
			counts[genus > 0]++
			if want := closureByHand(d, group); genus != want {
				t.Fatalf("ClosureGenus(%v) = %d, not %d", d, genus, want)
			}
		}
	}
	if counts[true] < 50 || counts[false] < 50 {
		t.Errorf("closures with holes and without that are tested: %v", counts)
	}
}

func TestRegularDessinsHaveTheGenusOfTheirClosure(t *testing.T) {
	dessins := sampleDessins()
	for _, d := range regularDessins() {
		dessins = append(dessins, d, withOtherNames(d))
	}
	for n := int64(1); n <= 16; n++ {
		star, _ := impl.StarDessin(n)
		band, _ := impl.BandDessin(n)
		dessins = append(dessins, star, band)
	}
	holes := 0
	for _, d := range dessins {
		if yes, _ := impl.IsRegular(d); !yes {
			continue
		}
		own, _ := impl.GenusOf(d)
		if own > 0 {
			holes++
		}
		if genus, code := impl.ClosureGenus(d); genus != own || code != impl.ErrNone {
			t.Errorf("ClosureGenus(%v) = %d, %d, and the genus is %d", d, genus, code, own)
		}
	}
	if holes == 0 {
		t.Error("no regular dessin with a genus above 0 is tested")
	}
}

func TestClosureGenusOfKnownDessins(t *testing.T) {
	for text, want := range map[string]int64{
		"1|()|()":                      0,
		"3|(0 1 2)|()":                 0,
		"3|(0 1 2)|(0 1 2)":            1,
		"3|(0 1 2)|(0 1)":              0,
		"4|(1 2)|(0 1)(2 3)":           0,
		"4|(0 1 2 3)|(0 1)":            0,
		"5|(0 1 2 3 4)|(0 1 2)":        9,
		"7|(0 1 2 3 4 5 6)|(0 1)(2 5)": 3,
		"16|(0 1 2 3 4 5 6 7 8 9 10 11 12 13 14 15)|(0 1)": 3879433958401,
	} {
		if genus, code := impl.ClosureGenus(mustParse(t, text)); genus != want || code != impl.ErrNone {
			t.Errorf("ClosureGenus(%s) = %d, %d", text, genus, code)
		}
	}
}
