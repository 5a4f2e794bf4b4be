package tests

import (
	"slices"
	"testing"

	"loop.example/g01200/impl"
)

// allLists returns all lists of so many numbers below n.
func allLists(length int64, n int64) [][]int64 {
	lists := [][]int64{{}}
	for range length {
		var longer [][]int64
		for _, list := range lists {
			for y := range n {
				longer = append(longer, append(slices.Clone(list), y))
			}
		}
		lists = longer
	}
	return lists
}

// isMorphism asks each step of d.
func isMorphism(d impl.Dessin, e impl.Dessin, list []int64) bool {
	if int64(len(list)) != d.Darts {
		return false
	}
	for x, y := range list {
		if y < 0 || y >= e.Darts || list[d.Black[x]] != int64(e.Black[y]) || list[d.White[x]] != int64(e.White[y]) {
			return false
		}
	}
	return true
}

// morphismsByHand spreads from each dart of e what is given to the dart 0.
func morphismsByHand(d impl.Dessin, e impl.Dessin) [][]int64 {
	var found [][]int64
	for y := range e.Darts {
		list := slices.Repeat([]int64{-1}, int(d.Darts))
		list[0] = y
		for range d.Darts {
			for x, z := range list {
				if z >= 0 {
					list[d.Black[x]], list[d.White[x]] = int64(e.Black[z]), int64(e.White[z])
				}
			}
		}
		if list[0] == y && isMorphism(d, e, list) {
			found = append(found, list)
		}
	}
	return found
}

func isOnto(e impl.Dessin, list []int64) bool {
	for y := range e.Darts {
		if !slices.Contains(list, y) {
			return false
		}
	}
	return true
}

// listOf writes a permutation as a list of darts.
func listOf(p impl.Places, n int64) []int64 {
	var list []int64
	for _, y := range p[:n] {
		list = append(list, int64(y))
	}
	return list
}

func TestMorphismsOfFewDarts(t *testing.T) {
	var few []impl.Dessin
	for n := int64(1); n <= 4; n++ {
		for i, d := range allDessins(n) {
			if n < 4 || i%11 == 0 {
				few = append(few, d)
			}
		}
	}
	for _, d := range few {
		for _, e := range few {
			var want [][]int64
			for _, list := range allLists(d.Darts, e.Darts) {
				if isMorphism(d, e, list) {
					want = append(want, list)
				}
			}
			slices.SortFunc(want, func(a, b []int64) int { return int(a[0] - b[0]) })
			if found, code := impl.MorphismsOf(d, e); !sameLists(found, want) || code != impl.ErrNone {
				t.Fatalf("MorphismsOf(%v, %v) = %v, %d", d, e, found, code)
			}
		}
	}
}

func TestMorphismsLeadOntoAllDarts(t *testing.T) {
	several := 0
	check := func(d impl.Dessin, e impl.Dessin) {
		found, code := impl.MorphismsOf(d, e)
		if !sameLists(found, morphismsByHand(d, e)) || code != impl.ErrNone {
			t.Fatalf("MorphismsOf(%v, %v) = %v, %d", d, e, found, code)
		}
		for _, list := range found {
			if !isOnto(e, list) || d.Darts%e.Darts != 0 {
				t.Errorf("the morphism %v from %v leads not onto all darts of %v", list, d, e)
			}
			if e.Darts > 1 && e.Darts < d.Darts {
				several++
			}
		}
	}
	sample := sampleDessins()
	for i, d := range sample {
		check(d, d)
		check(d, sample[i*7919%len(sample)])
	}
	for _, d := range regularDessins() {
		for _, e := range regularDessins() {
			check(d, e)
		}
		for _, e := range quotientsByHand(d) {
			check(d, e)
			check(e, d)
		}
	}
	if several == 0 {
		t.Error("no morphism to fewer darts, but more than one, is tested")
	}
}

func quotientsByHand(d impl.Dessin) []impl.Dessin {
	var quotients []impl.Dessin
	for _, p := range isomorphismsByHand(d, d) {
		e, _ := quotientByHand(d, p)
		quotients = append(quotients, e)
	}
	return quotients
}

// TestMorphismsToEquallyManyDarts: these are the isomorphisms, as morphisms lead onto all darts.
func TestMorphismsToEquallyManyDarts(t *testing.T) {
	for _, d := range sampleDessins() {
		for _, p := range renamings(d) {
			e := renamedByHand(d, p)
			var want [][]int64
			for _, p := range isomorphismsByHand(d, e) {
				want = append(want, listOf(p, d.Darts))
			}
			if found, code := impl.MorphismsOf(d, e); !sameLists(found, want) || code != impl.ErrNone {
				t.Fatalf("MorphismsOf(%v, %v) = %v, %d", d, e, found, code)
			}
		}
	}
}

func TestMorphismsOfKnownDessins(t *testing.T) {
	cases := []struct {
		from string
		to   string
		want [][]int64
	}{
		{"1|()|()", "1|()|()", [][]int64{{0}}},
		{"3|(0 1 2)|()", "1|()|()", [][]int64{{0, 0, 0}}},
		{"1|()|()", "3|(0 1 2)|()", nil},
		{"3|(0 1 2)|()", "2|(0 1)|()", nil},
		{"4|(0 1 2 3)|()", "2|(0 1)|()", [][]int64{{0, 1, 0, 1}, {1, 0, 1, 0}}},
		{"4|(0 1 2 3)|()", "2|()|(0 1)", nil},
		{"2|(0 1)|()", "4|(0 1 2 3)|()", nil},
		{"4|(1 2)|(0 1)(2 3)", "2|()|(0 1)", [][]int64{{0, 1, 1, 0}, {1, 0, 0, 1}}},
		{"4|(0 1)(2 3)|(0 2)(1 3)", "2|(0 1)|(0 1)", [][]int64{{0, 1, 1, 0}, {1, 0, 0, 1}}},
		{"6|(0 1)(2 3)(4 5)|(0 5)(1 2)(3 4)", "3|(0 1)|(1 2)", [][]int64{{0, 1, 2, 2, 1, 0}, {1, 0, 0, 1, 2, 2}, {2, 2, 1, 0, 0, 1}}},
		{"3|(0 1)|(1 2)", "3|(1 2)|(0 1)", [][]int64{{2, 1, 0}}},
		{"4|(0 1 2)|(2 3)", "4|(0 1)(2 3)|(1 2)", nil},
	}
	for _, c := range cases {
		d, _ := impl.ParseDessin(c.from)
		e, _ := impl.ParseDessin(c.to)
		if found, code := impl.MorphismsOf(d, e); !sameLists(found, c.want) || code != impl.ErrNone {
			t.Errorf("MorphismsOf(%s, %s) = %v, %d", c.from, c.to, found, code)
		}
		checkOwnMemory(t, "MorphismsOf", func() [][]int64 {
			found, _ := impl.MorphismsOf(d, e)
			return found
		})
	}
}

func TestMorphismsBetweenStars(t *testing.T) {
	for n := int64(1); n <= 16; n++ {
		for m := int64(1); m <= 16; m++ {
			d, _ := impl.StarDessin(n)
			e, _ := impl.StarDessin(m)
			want := m
			if n%m != 0 {
				want = 0
			}
			if found, code := impl.MorphismsOf(d, e); int64(len(found)) != want || code != impl.ErrNone {
				t.Errorf("MorphismsOf(star of %d, star of %d) = %v, %d", n, m, found, code)
			}
		}
	}
}

func TestMorphismsOfRefuses(t *testing.T) {
	star, _ := impl.StarDessin(3)
	for name, d := range notDessins() {
		for _, c := range [][2]impl.Dessin{{d, d}, {d, star}, {star, d}} {
			if found, code := impl.MorphismsOf(c[0], c[1]); len(found) != 0 || code != impl.ErrInvalid {
				t.Errorf("%s: MorphismsOf = %v, %d", name, found, code)
			}
		}
	}
}

// quotientByHand looks for each dart in the cycles of p, and asks the first dart of each cycle.
func quotientByHand(d impl.Dessin, p impl.Places) (impl.Dessin, []int64) {
	cycles := cyclesByHand(p, d.Darts)
	cycleOf := func(x int64) int64 {
		return int64(slices.IndexFunc(cycles, func(cycle []int64) bool { return slices.Contains(cycle, x) }))
	}
	e := impl.Dessin{Darts: int64(len(cycles))}
	for i, cycle := range cycles {
		e.Black[i] = byte(cycleOf(int64(d.Black[cycle[0]])))
		e.White[i] = byte(cycleOf(int64(d.White[cycle[0]])))
	}
	var projection []int64
	for x := range d.Darts {
		projection = append(projection, cycleOf(x))
	}
	return e, projection
}

func TestQuotientBy(t *testing.T) {
	check := func(d impl.Dessin) {
		for _, p := range isomorphismsByHand(d, d) {
			want, list := quotientByHand(d, p)
			e, projection, code := impl.QuotientBy(d, p)
			if e != want || !slices.Equal(projection, list) || code != impl.ErrNone {
				t.Fatalf("QuotientBy(%v, %v) = %v, %v, %d", d, p, e, projection, code)
			}
			if !impl.IsDessin(e) || !isMorphism(d, e, projection) || !isOnto(e, projection) {
				t.Errorf("QuotientBy(%v, %v) = %v, %v", d, p, e, projection)
			}
			clear(projection[:cap(projection)])
			if _, again, _ := impl.QuotientBy(d, p); !slices.Equal(again, list) {
				t.Errorf("QuotientBy(%v, %v): the projection is no new memory", d, p)
			}
		}
	}
	for _, d := range sampleDessins() {
		check(d)
	}
	for _, d := range regularDessins() {
		check(d)
		for _, p := range renamings(d) {
			check(renamedByHand(d, p))
		}
	}
}

func TestQuotientByKnownAutomorphisms(t *testing.T) {
	cases := []struct {
		text       string
		p          impl.Places
		want       string
		projection []int64
	}{
		{"1|()|()", impl.Places{0}, "1|()|()", []int64{0}},
		{"3|(0 1 2)|()", impl.Places{1, 2, 0}, "1|()|()", []int64{0, 0, 0}},
		{"3|(0 1 2)|()", impl.Places{0, 1, 2}, "3|(0 1 2)|()", []int64{0, 1, 2}},
		{"6|(0 1 2 3 4 5)|()", impl.Places{2, 3, 4, 5, 0, 1}, "2|(0 1)|()", []int64{0, 1, 0, 1, 0, 1}},
		{"6|(0 1 2 3 4 5)|()", impl.Places{3, 4, 5, 0, 1, 2}, "3|(0 1 2)|()", []int64{0, 1, 2, 0, 1, 2}},
		{"4|(1 2)|(0 1)(2 3)", impl.Places{3, 2, 1, 0}, "2|()|(0 1)", []int64{0, 1, 1, 0}},
		{"4|(0 1)(2 3)|(0 2)(1 3)", impl.Places{3, 2, 1, 0}, "2|(0 1)|(0 1)", []int64{0, 1, 1, 0}},
		{"4|(0 1)(2 3)|(0 2)", impl.Places{0, 1, 2, 3}, "4|(0 1)(2 3)|(0 2)", []int64{0, 1, 2, 3}},
		{"4|(0 1)(2 3)|(0 2)", impl.Places{2, 3, 0, 1}, "2|(0 1)|()", []int64{0, 1, 0, 1}},
	}
	for _, c := range cases {
		d, _ := impl.ParseDessin(c.text)
		e, projection, code := impl.QuotientBy(d, c.p)
		if text, _ := impl.DessinText(e); text != c.want || !slices.Equal(projection, c.projection) || code != impl.ErrNone {
			t.Errorf("QuotientBy(%s, %v) = %s, %v, %d", c.text, c.p, text, projection, code)
		}
	}
}

func TestQuotientByRefusesWhatIsNoAutomorphism(t *testing.T) {
	refused := 0
	for _, d := range sampleDessins() {
		for _, p := range renamings(d) {
			if renamedByHand(d, p) == d {
				continue
			}
			refused++
			if e, list, code := impl.QuotientBy(d, p); e != (impl.Dessin{}) || len(list) != 0 || code != impl.ErrState {
				t.Fatalf("QuotientBy(%v, %v) = %v, %v, %d", d, p, e, list, code)
			}
		}
	}
	if refused == 0 {
		t.Error("nothing was refused")
	}
	// Black or White alone is kept.
	for text, p := range map[string]impl.Places{"3|(0 1 2)|(0 1)": {1, 2, 0}, "3|(0 1)|(0 1 2)": {1, 2, 0}} {
		d, _ := impl.ParseDessin(text)
		if e, list, code := impl.QuotientBy(d, p); e != (impl.Dessin{}) || len(list) != 0 || code != impl.ErrState {
			t.Errorf("QuotientBy(%s, %v) = %v, %v, %d", text, p, e, list, code)
		}
	}
}

func TestQuotientByRefusesInvalidArguments(t *testing.T) {
	check := func(name string, d impl.Dessin, p impl.Places) {
		if e, list, code := impl.QuotientBy(d, p); e != (impl.Dessin{}) || len(list) != 0 || code != impl.ErrInvalid {
			t.Errorf("%s: QuotientBy(%v, %v) = %v, %v, %d", name, d, p, e, list, code)
		}
	}
	for name, d := range notDessins() {
		for _, p := range []impl.Places{{}, staying(3), staying(16)} {
			check(name, d, p)
		}
	}
	for name, c := range notPermutations() {
		if star, code := impl.StarDessin(c.n); code == impl.ErrNone {
			check(name, star, c.p)
		}
	}
	star, _ := impl.StarDessin(3)
	for _, p := range []impl.Places{staying(4), {1, 0}, {1, 2, 0, 3}, {0, 1, 3}, {1, 2, 3, 0}} {
		check("of another number of darts", star, p)
	}
}
