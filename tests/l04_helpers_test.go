package tests

import (
	"fmt"
	"math"
	"slices"
	"testing"

	"loop.example/g01200/impl"
)

// tally tells what the pairs of a passport are; the forms are told only where they are asked for.
type tally struct {
	pairs     int64
	connected int64
	forms     map[impl.Dessin]bool
}

func passportKey(passport [][]int64) string { return fmt.Sprint(passport) }

// permutationsByType lists all permutations of n numbers under their types.
func permutationsByType(n int64) map[string][]impl.Places {
	all := map[string][]impl.Places{}
	for _, p := range allPlaces(n) {
		key := fmt.Sprint(typeByHand(p, n))
		all[key] = append(all[key], p)
	}
	return all
}

// talliesByHand takes all pairs of permutations of n numbers, or, for one Black permutation of each
// type alone, all White ones, and counts these pairs as often as there are such Black ones.
func talliesByHand(n int64, blacks int, withForms bool) map[string]tally {
	byType := permutationsByType(n)
	keyOf := map[impl.Places]string{}
	for key, list := range byType {
		for _, p := range list {
			keyOf[p] = key
		}
	}
	tallies := map[string]tally{}
	for key, list := range byType {
		used := list[:min(blacks, len(list))]
		weight := int64(len(list) / len(used))
		for _, black := range used {
			for white, whiteKey := range keyOf {
				d := impl.Dessin{Darts: n, Black: black, White: white}
				at := "[" + key + " " + whiteKey + " " + keyOf[backByHand(thenByHand(black, white, n), n)] + "]"
				tallies[at] = tallies[at].with(d, weight, withForms)
			}
		}
	}
	return tallies
}

func (c tally) with(d impl.Dessin, weight int64, withForms bool) tally {
	c.pairs += weight
	if !joinsAll(d) {
		return c
	}
	c.connected += weight
	if withForms {
		if c.forms == nil {
			c.forms = map[impl.Dessin]bool{}
		}
		c.forms[canonicalByHand(d)] = true
	}
	return c
}

func sortedDessins(forms map[impl.Dessin]bool) []impl.Dessin {
	var list []impl.Dessin
	for d := range forms {
		list = append(list, d)
	}
	slices.SortFunc(list, func(a, b impl.Dessin) int { return slices.Compare(listOfDessin(a), listOfDessin(b)) })
	return list
}

// descendingLists makes the types of n from their greatest numbers on, and then puts them in order.
func descendingLists(n int64) [][]int64 {
	var lists [][]int64
	var extend func(list []int64, missing int64)
	extend = func(list []int64, missing int64) {
		if missing == 0 {
			lists = append(lists, slices.Clone(list))
			return
		}
		for x := missing; x >= 1; x-- {
			if len(list) == 0 || x <= list[len(list)-1] {
				extend(append(list, x), missing-x)
			}
		}
	}
	extend(nil, n)
	slices.SortFunc(lists, slices.Compare)
	return lists
}

// passportsByHand lists all passports of n in their order.
func passportsByHand(n int64) [][][]int64 {
	var passports [][][]int64
	lists := descendingLists(n)
	for _, a := range lists {
		for _, b := range lists {
			for _, c := range lists {
				passports = append(passports, [][]int64{a, b, c})
			}
		}
	}
	return passports
}

// samplePassports returns all passports of at most 5, and some of a greater number, among them those
// with the most and the fewest permutations.
func samplePassports(n int64, count int) [][][]int64 {
	if n <= 5 {
		return passportsByHand(n)
	}
	s, lists := source(n), descendingLists(n)
	first, last := lists[0], lists[len(lists)-1]
	sample := [][][]int64{{first, first, first}, {last, last, last}, {{n - 1, 1}, {n - 1, 1}, {n - 1, 1}}, {last, last, {n - 2, 1, 1}}}
	for range count {
		sample = append(sample, [][]int64{lists[s.below(len(lists))], lists[s.below(len(lists))], lists[s.below(len(lists))]})
	}
	return sample
}

func factorialByHand(n int64) int64 {
	if n == 0 {
		return 1
	}
	return n * factorialByHand(n-1)
}

func ones(n int) []int64 { return slices.Repeat([]int64{1}, n) }

// notTypes are lists that are no types.
func notTypes() map[string][]int64 {
	return map[string][]int64{
		"nil":                           nil,
		"empty":                         {},
		"zero":                          {0},
		"below zero":                    {-1},
		"ascending":                     {1, 2},
		"ascending at the end":          {3, 1, 2},
		"ascending at the beginning":    {2, 3, 1},
		"zero at the end":               {2, 1, 0},
		"zero at the beginning":         {0, 1},
		"below zero at the end":         {3, 1, -1},
		"a sum of 17":                   {17},
		"17 ones":                       ones(17),
		"33 ones":                       ones(33),
		"256 ones and 3":                ones(259),
		"eights and one":                {8, 8, 1},
		"16 and one":                    {16, 1},
		"one more than a sum of 16":     {6, 5, 4, 2},
		"16 from a number below zero":   {17, -1},
		"the greatest number":           {math.MaxInt64},
		"the least number":              {math.MinInt64},
		"a sum that wraps to 16":        {math.MaxInt64, math.MaxInt64, 18},
		"a sum of fours that wraps":     {1 << 62, 1 << 62, 1 << 62, 1 << 62, 3},
		"a sum that wraps to 3":         {math.MaxInt64, math.MaxInt64, 5},
		"a sum of 32 bits that wraps":   {1<<32 + 3},
		"a number of 8 bits that wraps": {256 + 3},
	}
}

// notPassports are lists of lists that are no passports.
func notPassports() map[string][][]int64 {
	bad := map[string][][]int64{
		"nil":                      nil,
		"empty":                    {},
		"one type":                 {{3}},
		"two types":                {{3}, {2, 1}},
		"four types":               {{3}, {2, 1}, {3}, {3}},
		"a greater first sum":      {{4}, {3}, {2, 1}},
		"a greater second sum":     {{3}, {3, 1}, {2, 1}},
		"a greater third sum":      {{3}, {2, 1}, {2, 1, 1}},
		"three sums":               {{1}, {2}, {3}},
		"equal lengths alone":      {{1, 1}, {2, 1}, {2, 2}},
		"empty lists":              {{}, {}, {}},
		"nil lists":                {nil, nil, nil},
		"sums of 17":               {{17}, {9, 8}, ones(17)},
		"sums of 9 and no type":    {{9}, {4, 5}, {9}},
		"sums of 16 and two types": {{16}, ones(16)},
	}
	for name, list := range notTypes() {
		bad["first: "+name] = [][]int64{list, {2, 1}, {3}}
		bad["second: "+name] = [][]int64{{2, 1}, list, {3}}
		bad["third: "+name] = [][]int64{{2, 1}, {3}, list}
		bad["all: "+name] = [][]int64{list, list, list}
	}
	return bad
}

// largePassports are passports of more than 8.
func largePassports() [][][]int64 {
	return [][][]int64{
		{{9}, ones(9), {9}}, {{5, 4}, {3, 3, 3}, {9}}, {ones(9), ones(9), ones(9)}, {{10}, {9, 1}, {2, 2, 2, 2, 2}},
		{{16}, ones(16), {16}}, {{16}, {16}, {16}}, {ones(16), ones(16), ones(16)},
	}
}

// withSpareNumbers copies a passport; behind each list, and behind the list of them, is more.
func withSpareNumbers(passport [][]int64) [][]int64 {
	copied := make([][]int64, 0, len(passport)+1)
	for _, list := range passport {
		copied = append(copied, append(slices.Clone(list), 7, 7, 7)[:len(list)])
	}
	return append(copied, []int64{7})[:len(passport)]
}

// checkKept fails if what withSpareNumbers made has been changed.
func checkKept(t *testing.T, name string, passport [][]int64, want [][]int64) {
	t.Helper()
	if !sameLists(passport, want) || !slices.Equal(passport[:len(want)+1][len(want)], []int64{7}) {
		t.Errorf("%s changes its argument %v to %v", name, want, passport)
	}
	for i, list := range passport {
		if !slices.Equal(list[:len(want[i])+3][len(want[i]):], []int64{7, 7, 7}) {
			t.Errorf("%s changes what is behind %v", name, want[i])
		}
	}
}
