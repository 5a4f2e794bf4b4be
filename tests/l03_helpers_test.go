package tests

import (
	"slices"
	"testing"

	"loop.example/g01200/impl"
)

func thenByHand(p, q impl.Places, n int64) impl.Places {
	var r impl.Places
	for x := range n {
		r[x] = q[p[x]]
	}
	return r
}

func backByHand(p impl.Places, n int64) impl.Places {
	var r impl.Places
	for x := range n {
		r[x] = byte(slices.Index(p[:n], byte(x)))
	}
	return r
}

// greatestByHand is the number of permutations up to which groups are listed.
const greatestByHand = 9000

// groupByHand lists all permutations that are made from some, or nothing if they are too many.
func groupByHand(n int64, makers ...impl.Places) map[impl.Places]bool {
	group := map[impl.Places]bool{staying(n): true}
	stack := []impl.Places{staying(n)}
	for len(stack) > 0 {
		p := stack[len(stack)-1]
		stack = stack[:len(stack)-1]
		for _, q := range makers {
			if r := thenByHand(q, p, n); !group[r] {
				group[r] = true
				stack = append(stack, r)
			}
		}
		if len(group) > greatestByHand {
			return nil
		}
	}
	return group
}

func groupOfDessin(d impl.Dessin) map[impl.Places]bool {
	back := func(p impl.Places) impl.Places { return backByHand(p, d.Darts) }
	return groupByHand(d.Darts, d.Black, d.White, back(d.White), back(d.Black))
}

// orderByHand multiplies the number of places to which x is led with the order of the group that
// leads it nowhere else; this one is made from Schreier's products, of which few are kept.
func orderByHand(n int64, x int64, makers []impl.Places) int64 {
	if x == n {
		return 1
	}
	ways := map[byte]impl.Places{byte(x): staying(n)}
	reached := []byte{byte(x)}
	for i := 0; i < len(reached); i++ {
		for _, p := range makers {
			way := thenByHand(ways[reached[i]], p, n)
			if _, known := ways[way[x]]; !known {
				ways[way[x]] = way
				reached = append(reached, way[x])
			}
		}
	}
	kept := map[[2]byte]impl.Places{}
	for _, y := range reached {
		for _, p := range makers {
			way := thenByHand(ways[y], p, n)
			keepProduct(kept, thenByHand(way, backByHand(ways[way[x]], n), n), n)
		}
	}
	var next []impl.Places
	for _, p := range kept {
		next = append(next, p)
	}
	return int64(len(reached)) * orderByHand(n, x+1, next)
}

// keepProduct keeps at most one permutation for each first number that is moved and each place.
func keepProduct(kept map[[2]byte]impl.Places, p impl.Places, n int64) {
	for x := range byte(n) {
		if p[x] == x {
			continue
		}
		at := [2]byte{x, p[x]}
		q, known := kept[at]
		if !known {
			kept[at] = p
			return
		}
		p = thenByHand(p, backByHand(q, n), n)
	}
}

func orderOfDessin(d impl.Dessin) int64 {
	return orderByHand(d.Darts, 0, []impl.Places{d.Black, d.White})
}

func mustParse(t *testing.T, text string) impl.Dessin {
	t.Helper()
	d, code := impl.ParseDessin(text)
	if code != impl.ErrNone {
		t.Fatalf("ParseDessin(%q): code %d", text, code)
	}
	return d
}

// knownGroup is a dessin whose group is known by its name.
type knownGroup struct {
	name   string
	text   string
	order  int64
	series []int64
	blocks [][]int64
}

// knownGroups were looked up with a system for computing with groups.
func knownGroups() []knownGroup {
	return []knownGroup{
		{"one permutation", "1|()|()", 1, []int64{1}, nil},
		{"two of two", "2|(0 1)|()", 2, []int64{2, 1}, [][]int64{{0, 1}}},
		{"the square", "4|(1 2)|(0 1)(2 3)", 8, []int64{8, 2, 1}, [][]int64{{0, 3}, upTo(4)}},
		{"even ones of four", "4|(0 1 2)|(1 2 3)", 12, []int64{12, 4, 1}, [][]int64{upTo(4)}},
		{"all of four", "4|(0 1 2 3)|(0 1)", 24, []int64{24, 12, 4, 1}, [][]int64{upTo(4)}},
		{"affine ones of five", "5|(0 1 2 3 4)|(1 2 4 3)", 20, []int64{20, 5, 1}, [][]int64{upTo(5)}},
		{"even ones of five", "5|(0 1 2 3 4)|(0 1 2)", 60, []int64{60}, [][]int64{upTo(5)}},
		{"lines of seven points", "7|(0 1 2 3 4 5 6)|(0 1)(2 5)", 168, []int64{168}, [][]int64{upTo(7)}},
		{"quaternions", "8|(0 1 2 3)(4 5 6 7)|(0 4 2 6)(1 7 3 5)", 8, []int64{8, 2, 1}, [][]int64{{0, 2}, {0, 1, 2, 3}, {0, 2, 4, 6}, {0, 2, 5, 7}}},
		{"a line of seven and one", "8|(2 3 5)(4 6 7)|(0 1 2 4 7 5 3 6)", 336, []int64{336, 168}, [][]int64{upTo(8)}},
		{"a plane of nine", "9|(1 2 3 5 7 4)(6 8)|(0 1 3 2 4 6)(5 7 8)", 432, []int64{432, 216, 72, 18, 9, 1}, [][]int64{upTo(9)}},
		{"a line of nine and one", "10|(0 1 2 4 7)(3 5 9 6 8)|(0 1 3 6 4 8 7 2 5 9)", 720, []int64{720, 360}, [][]int64{upTo(10)}},
		{"Mathieu's of eleven", "11|(1 2 4 7 9)(3 6 5 8 10)|(0 1 3 7 10)(2 5 4 8 6)", 7920, []int64{7920}, [][]int64{upTo(11)}},
		{"Mathieu's of twelve", "12|(0 1 2 3 4 5 7 9)(6 8 10 11)|(0 2 4 6 3)(5 7 9 11 10)", 95040, []int64{95040}, [][]int64{upTo(12)}},
		{"3888 of twelve", "12|(1 2)(3 5 4 6 8 11)(7 9)|(0 1 3)(2 4 7 10 8 9)(5 6)", 3888, []int64{3888, 972, 108, 27, 1}, [][]int64{{0, 7, 9}, upTo(12)}},
		{"5184 of twelve", "12|(0 1 2 3 5 8 7 10)(4 6 9 11)|(0 2 4 7)(1 3)(5 9)(6 10)(8 11)", 5184, []int64{5184, 648, 81, 1}, [][]int64{{0, 4, 5}, {0, 2, 4, 5, 7, 9}, upTo(12)}},
		{"a line of thirteen and one", "14|(0 1 2 4 7 12 3)(5 9 13 8 10 6 11)|(0 2 5 10 9 12)(1 3 6 7 4 8)", 1092, []int64{1092}, [][]int64{upTo(14)}},
		{"4860 of fifteen", "15|(0 1 2 4 8 7 12 14 13 3 6 10)(5 9 11)|(0 2 5 10 13 6 11 14 8 12 9 4)(1 3 7)", 4860, []int64{4860, 405, 81, 1}, [][]int64{{0, 8, 13}, upTo(15)}},
		{"4096 of sixteen", "16|(0 1 2 4 7 6 9 12)(3 5 8 11 15 10 14 13)|(1 3 6 4 8 12 14 15)(7 10)(9 13)", 4096, []int64{4096, 256, 16, 1}, [][]int64{{0, 5}, {0, 5, 7, 10}, {0, 2, 5, 7, 9, 10, 11, 13}, upTo(16)}},
		{"fours of fours", "16|(1 2 3 5 8 10)(4 6 9 11 13 15)(12 14)|(0 1 2 4 7 5 8 11 14 6 9 10 12 13 15 3)", 7962624, []int64{7962624, 1990656, 663552, 41472, 20736, 256, 1}, [][]int64{{0, 7, 12, 14}, upTo(16)}},
		{"eight twos", "16|(0 1 3 5 8 4 6 2)(7 10 9 13 12 15 14 11)|(0 2 5 1 4 7 11 13 10 15)(3 6 9 14)(8 12)", 10321920, []int64{10321920, 2580480}, [][]int64{{0, 7}, upTo(16)}},
		{"two eights", "16|(0 1)(2 4)(3 6 11 8)(5 9 13 15)(7 12 10 14)|(0 2 5 10 14 15 13 1 3 7)(4 8 12 9 11 6)", 3251404800, []int64{3251404800, 812851200, 406425600}, [][]int64{{0, 3, 4, 5, 11, 12, 13, 14}, upTo(16)}},
		{"a space of sixteen", "16|(1 2 4)(3 5 7 10 13 11)(6 9 8)(12 15)|(0 1 3 6 9 7 11 14 5 8 12 10 13 15 2)", 322560, []int64{322560}, [][]int64{upTo(16)}},
	}
}

func upTo(n int64) []int64 {
	var list []int64
	for x := range n {
		list = append(list, x)
	}
	return list
}

// covering is a dessin with so many darts over each dart of another one: the dart x has over it
// sheets x, sheets x + 1, and so on.
type covering struct {
	base   impl.Dessin
	sheets int64
	cover  impl.Dessin
}

// coverByHand turns the darts over each dart by its numbers on the way with Black and with White.
func coverByHand(d impl.Dessin, m int64, black, white []int64) impl.Dessin {
	cover := impl.Dessin{Darts: d.Darts * m}
	for x := range d.Darts {
		for i := range m {
			cover.Black[m*x+i] = byte(m*int64(d.Black[x]) + (i+black[x])%m)
			cover.White[m*x+i] = byte(m*int64(d.White[x]) + (i+white[x])%m)
		}
	}
	return cover
}

// coverings are cyclic ones of some dessins of each number of darts.
func coverings() []covering {
	s := source(19)
	var all []covering
	for n := int64(1); n <= 16; n++ {
		for m := int64(1); n*m <= 16; m++ {
			for range 6 {
				base := impl.Dessin{Darts: n, Black: s.places(n), White: s.places(n)}
				var black, white []int64
				for range n {
					black, white = append(black, int64(s.below(int(m)))), append(white, int64(s.below(int(m))))
				}
				if cover := coverByHand(base, m, black, white); joinsAll(cover) {
					all = append(all, covering{base, m, cover})
				}
			}
		}
	}
	return all
}

func otherNames(d impl.Dessin) impl.Places {
	names := renamings(d)
	return names[len(names)-1]
}

func withOtherNames(d impl.Dessin) impl.Dessin { return renamedByHand(d, otherNames(d)) }

// groupDessins have groups of all kinds: all dessins of at most 3 darts, some of 4 and more, with
// few permutations and with many, with blocks and without.
func groupDessins(t *testing.T) []impl.Dessin {
	t.Helper()
	var all []impl.Dessin
	for n := int64(1); n <= 3; n++ {
		all = append(all, allDessins(n)...)
	}
	for i, d := range allDessins(4) {
		if i%5 == 0 {
			all = append(all, d)
		}
	}
	for _, d := range regularDessins() {
		all = append(all, d, withOtherNames(d))
	}
	for _, c := range coverings() {
		all = append(all, withOtherNames(c.cover))
	}
	for _, g := range knownGroups() {
		all = append(all, mustParse(t, g.text))
	}
	s := source(3)
	for n := int64(1); n <= 16; n++ {
		star, _ := impl.StarDessin(n)
		chain, _ := impl.ChainDessin(n)
		band, _ := impl.BandDessin(n)
		all = append(all, star, chain, band)
		for range 5 {
			if d := (impl.Dessin{Darts: n, Black: s.places(n), White: s.places(n)}); joinsAll(d) {
				all = append(all, d)
			}
		}
	}
	return all
}

// setsByHand lists the different sets that the group makes of a set of darts.
func setsByHand(d impl.Dessin, set []int64) [][]int64 {
	sets := [][]int64{slices.Clone(set)}
	for i := 0; i < len(sets); i++ {
		for _, p := range []impl.Places{d.Black, d.White} {
			var next []int64
			for _, x := range sets[i] {
				next = append(next, int64(p[x]))
			}
			slices.Sort(next)
			if !slices.ContainsFunc(sets, func(other []int64) bool { return slices.Equal(other, next) }) {
				sets = append(sets, next)
			}
		}
	}
	return sets
}

// isBlockByHand counts darts: sets without common darts have at most all darts together.
func isBlockByHand(d impl.Dessin, set []int64) bool {
	if d.Darts%int64(len(set)) != 0 || !staysOrLeaves(set, d.Black) || !staysOrLeaves(set, d.White) {
		return false
	}
	return len(setsByHand(d, set))*len(set) == int(d.Darts)
}

// allBlocks lists the blocks with the dart 0, those with fewer darts first.
func allBlocks(d impl.Dessin) [][]int64 {
	var blocks [][]int64
	for bits := 1; bits < 1<<d.Darts; bits += 2 {
		var set []int64
		for x := range d.Darts {
			if bits>>x&1 == 1 {
				set = append(set, x)
			}
		}
		if isBlockByHand(d, set) {
			blocks = append(blocks, set)
		}
	}
	slices.SortStableFunc(blocks, func(a, b []int64) int { return len(a) - len(b) })
	return blocks
}

// staysOrLeaves reports whether p makes the same set of it or one without a common dart.
func staysOrLeaves(set []int64, p impl.Places) bool {
	common := 0
	for _, x := range set {
		if slices.Contains(set, int64(p[x])) {
			common++
		}
	}
	return common == 0 || common == len(set)
}

// blocksWith lists those of all blocks, and of the sets that the group makes of them, with a dart.
func blocksWith(d impl.Dessin, all [][]int64, x int64) [][]int64 {
	var with [][]int64
	for _, block := range all {
		for _, set := range setsByHand(d, block) {
			if slices.Contains(set, x) {
				with = append(with, set)
			}
		}
	}
	return with
}

// firstWith returns the first one of some blocks with a dart.
func firstWith(blocks [][]int64, y int64) []int64 {
	return blocks[slices.IndexFunc(blocks, func(block []int64) bool { return slices.Contains(block, y) })]
}
