package tests

import (
	"math"
	"slices"
	"testing"

	"loop.example/g01200/impl"
)

func TestRenameDessin(t *testing.T) {
	for _, d := range sampleDessins() {
		for _, p := range renamings(d) {
			e, code := impl.RenameDessin(d, p)
			if e != renamedByHand(d, p) || code != impl.ErrNone || !impl.IsDessin(e) {
				t.Fatalf("RenameDessin(%v, %v) = %v, %d", d, p, e, code)
			}
		}
	}
	cases := []struct {
		text string
		p    impl.Places
		want string
	}{
		{"1|()|()", impl.Places{}, "1|()|()"},
		{"3|(0 1 2)|(0 1)", impl.Places{0, 1, 2}, "3|(0 1 2)|(0 1)"},
		{"3|(0 1 2)|(0 1)", impl.Places{1, 2, 0}, "3|(0 1 2)|(1 2)"},
		{"3|(0 1 2)|(0 1)", impl.Places{1, 0, 2}, "3|(0 2 1)|(0 1)"},
		{"4|(0 1 2)|(2 3)", impl.Places{1, 3, 2, 0}, "4|(1 3 2)|(0 2)"},
	}
	for _, c := range cases {
		d, _ := impl.ParseDessin(c.text)
		want, _ := impl.ParseDessin(c.want)
		if e, code := impl.RenameDessin(d, c.p); e != want || code != impl.ErrNone {
			t.Errorf("RenameDessin(%s, %v) = %v, %d", c.text, c.p, e, code)
		}
	}
}

func TestRenameDessinRefuses(t *testing.T) {
	for name, d := range notDessins() {
		for _, p := range []impl.Places{{}, staying(3), staying(16)} {
			if e, code := impl.RenameDessin(d, p); e != (impl.Dessin{}) || code != impl.ErrInvalid {
				t.Errorf("%s: RenameDessin = %v, %d", name, e, code)
			}
		}
	}
	for name, c := range notPermutations() {
		star, made := impl.StarDessin(c.n)
		if made != impl.ErrNone {
			continue
		}
		if e, code := impl.RenameDessin(star, c.p); e != (impl.Dessin{}) || code != impl.ErrInvalid {
			t.Errorf("%s: RenameDessin = %v, %d", name, e, code)
		}
	}
	star, _ := impl.StarDessin(3)
	for _, p := range []impl.Places{staying(4), {1, 0}, {1, 0, 2, 3}, {1, 2, 3, 0}} {
		if e, code := impl.RenameDessin(star, p); e != (impl.Dessin{}) || code != impl.ErrInvalid {
			t.Errorf("RenameDessin by %v = %v, %d", p, e, code)
		}
	}
}

func TestNamingFrom(t *testing.T) {
	for _, d := range sampleDessins() {
		for x := range d.Darts {
			if p, code := impl.NamingFrom(d, x); p != namingByHand(d, x) || code != impl.ErrNone {
				t.Fatalf("NamingFrom(%v, %d) = %v, %d", d, x, p, code)
			}
		}
	}
	cases := []struct {
		text string
		x    int64
		want impl.Places
	}{
		{"1|()|()", 0, impl.Places{0}},
		{"3|(0 1 2)|()", 0, impl.Places{0, 1, 2}},
		{"3|(0 1 2)|()", 2, impl.Places{1, 2, 0}},
		{"3|(1 2)|(0 1)", 0, impl.Places{0, 1, 2}},
		{"3|(1 2)|(0 1)", 1, impl.Places{2, 0, 1}},
		{"3|(0 2 1)|(0 1)", 0, impl.Places{0, 2, 1}},
		{"4|(0 1)|(0 2)(1 3)", 0, impl.Places{0, 1, 2, 3}},
		{"4|(0 1)(2 3)|(0 2)", 3, impl.Places{2, 3, 1, 0}},
	}
	for _, c := range cases {
		d, _ := impl.ParseDessin(c.text)
		if p, code := impl.NamingFrom(d, c.x); p != c.want || code != impl.ErrNone {
			t.Errorf("NamingFrom(%s, %d) = %v, %d", c.text, c.x, p, code)
		}
	}
}

func TestNamingFromRefuses(t *testing.T) {
	for name, d := range notDessins() {
		for _, x := range []int64{0, -1, 16} {
			if p, code := impl.NamingFrom(d, x); p != (impl.Places{}) || code != impl.ErrInvalid {
				t.Errorf("%s: NamingFrom = %v, %d", name, p, code)
			}
		}
	}
	for n := int64(1); n <= 16; n++ {
		star, _ := impl.StarDessin(n)
		for _, x := range []int64{-1, n, n + 1, 16, 256, 1 << 32, math.MinInt64, math.MaxInt64} {
			if p, code := impl.NamingFrom(star, x); p != (impl.Places{}) || code != impl.ErrRange {
				t.Errorf("NamingFrom(star of %d, %d) = %v, %d", n, x, p, code)
			}
		}
	}
}

func TestCanonicalDessin(t *testing.T) {
	for _, d := range sampleDessins() {
		c, code := impl.CanonicalDessin(d)
		if c != canonicalByHand(d) || code != impl.ErrNone {
			t.Fatalf("CanonicalDessin(%v) = %v, %d", d, c, code)
		}
		if again, code := impl.CanonicalDessin(c); again != c || code != impl.ErrNone {
			t.Errorf("CanonicalDessin(%v) = %v, %d", c, again, code)
		}
	}
	cases := map[string]string{
		"1|()|()":            "1|()|()",
		"3|(0 2 1)|()":       "3|(0 1 2)|()",
		"3|(0 1)|(1 2)":      "3|(1 2)|(0 1)",
		"3|(0 1 2)|(0 1)":    "3|(0 1 2)|(1 2)",
		"3|(0 1 2)|(0 2)":    "3|(0 1 2)|(1 2)",
		"3|(0 1 2)|(1 2)":    "3|(0 1 2)|(1 2)",
		"4|(0 1)(2 3)|(0 2)": "4|(0 1)(2 3)|(1 2)",
		"4|(1 2 3)|(0 1)":    "4|(1 2 3)|(0 1)",
		"4|(0 1 2)|(2 3)":    "4|(1 2 3)|(0 1)",
	}
	for text, want := range cases {
		d, _ := impl.ParseDessin(text)
		c, code := impl.CanonicalDessin(d)
		if found, _ := impl.DessinText(c); found != want || code != impl.ErrNone {
			t.Errorf("CanonicalDessin(%s) = %s, %d", text, found, code)
		}
	}
	for name, d := range notDessins() {
		if c, code := impl.CanonicalDessin(d); c != (impl.Dessin{}) || code != impl.ErrInvalid {
			t.Errorf("%s: CanonicalDessin = %v, %d", name, c, code)
		}
	}
}

// TestCanonicalDessinsAreEqualExactlyForIsomorphicDessins takes all dessins of few darts with all
// their renamings; the numbers of classes are those of the conjugacy classes of subgroups of the
// free group with two generators.
func TestCanonicalDessinsAreEqualExactlyForIsomorphicDessins(t *testing.T) {
	classes := []int{1, 3, 7, 26, 97}
	for n := int64(1); n <= 5; n++ {
		leastOf := map[impl.Dessin]impl.Dessin{}
		for _, d := range allDessins(n) {
			if _, known := leastOf[d]; !known {
				for _, p := range allPlaces(n) {
					leastOf[renamedByHand(d, p)] = d
				}
			}
		}
		canonicalOf := map[impl.Dessin]impl.Dessin{}
		for d, least := range leastOf {
			c, code := impl.CanonicalDessin(d)
			if code != impl.ErrNone || leastOf[c] != least {
				t.Fatalf("CanonicalDessin(%v) = %v, %d is not isomorphic to it", d, c, code)
			}
			if other, known := canonicalOf[least]; known && other != c {
				t.Fatalf("isomorphic dessins have the canonical ones %v and %v", other, c)
			}
			canonicalOf[least] = c
		}
		if len(canonicalOf) != classes[n-1] {
			t.Errorf("%d canonical dessins with %d darts", len(canonicalOf), n)
		}
	}
}

func TestRenamedDessinsHaveTheSameCanonicalOne(t *testing.T) {
	for _, d := range sampleDessins() {
		c, _ := impl.CanonicalDessin(d)
		for _, p := range renamings(d) {
			renamed, _ := impl.RenameDessin(d, p)
			if e, code := impl.CanonicalDessin(renamed); e != c || code != impl.ErrNone {
				t.Fatalf("CanonicalDessin(%v) = %v, %d, not %v", renamed, e, code, c)
			}
		}
	}
}

func TestRenamedDessinsHaveTheSamePassport(t *testing.T) {
	for _, d := range sampleDessins() {
		passport, _ := impl.PassportOf(d)
		genus, _ := impl.GenusOf(d)
		alike, _ := impl.CanonicalDessin(d)
		for _, p := range renamings(d) {
			renamed, _ := impl.RenameDessin(d, p)
			for _, e := range []impl.Dessin{renamed, alike} {
				if x, code := impl.PassportOf(e); !sameLists(x, passport) || code != impl.ErrNone {
					t.Fatalf("PassportOf(%v) = %v, %d, and of %v it is %v", e, x, code, d, passport)
				}
				if x, code := impl.GenusOf(e); x != genus || code != impl.ErrNone {
					t.Fatalf("GenusOf(%v) = %d, %d, and of %v it is %d", e, x, code, d, genus)
				}
			}
		}
	}
}

// isomorphismsByHand gives each dart what the first step that reaches it tells, and keeps what
// renames d to e.
func isomorphismsByHand(d impl.Dessin, e impl.Dessin) []impl.Places {
	var found []impl.Places
	if d.Darts != e.Darts {
		return nil
	}
	for y := range d.Darts {
		p := impl.Places{byte(y)}
		given := []byte{0}
		for i := 0; i < len(given); i++ {
			x := given[i]
			for _, step := range [][2]byte{{d.Black[x], e.Black[p[x]]}, {d.White[x], e.White[p[x]]}} {
				if !slices.Contains(given, step[0]) {
					p[step[0]] = step[1]
					given = append(given, step[0])
				}
			}
		}
		if impl.IsPermutation(p, d.Darts) && renamedByHand(d, p) == e {
			found = append(found, p)
		}
	}
	return found
}

func TestIsomorphismsOfFewDarts(t *testing.T) {
	var few []impl.Dessin
	for n := int64(1); n <= 3; n++ {
		few = append(few, allDessins(n)...)
	}
	for i, d := range allDessins(4) {
		if i%9 == 0 {
			few = append(few, d)
		}
	}
	for _, d := range few {
		for _, e := range few {
			var want []impl.Places
			for _, p := range allPlaces(d.Darts) {
				if renamedByHand(d, p) == e {
					want = append(want, p)
				}
			}
			slices.SortFunc(want, func(p, q impl.Places) int { return int(p[0]) - int(q[0]) })
			if found, code := impl.IsomorphismsOf(d, e); !slices.Equal(found, want) || code != impl.ErrNone {
				t.Fatalf("IsomorphismsOf(%v, %v) = %v, %d", d, e, found, code)
			}
		}
	}
}

func TestIsomorphismsOfRenamedDessins(t *testing.T) {
	for _, d := range sampleDessins() {
		for _, p := range renamings(d) {
			e := renamedByHand(d, p)
			found, code := impl.IsomorphismsOf(d, e)
			if code != impl.ErrNone || !slices.Contains(found, p) || !slices.Equal(found, isomorphismsByHand(d, e)) {
				t.Fatalf("IsomorphismsOf(%v, %v) = %v, %d", d, e, found, code)
			}
		}
	}
	for name, d := range regularDessins() {
		p := renamings(d)[len(renamings(d))-1]
		e := renamedByHand(d, p)
		found, code := impl.IsomorphismsOf(d, e)
		if code != impl.ErrNone || int64(len(found)) != d.Darts || !slices.Equal(found, isomorphismsByHand(d, e)) {
			t.Errorf("%s: IsomorphismsOf(%v, %v) = %v, %d", name, d, e, found, code)
		}
	}
}

func TestIsomorphismsLeadToIsomorphicDessinsAlone(t *testing.T) {
	sample := sampleDessins()
	for i, d := range sample {
		e := sample[i*7919%len(sample)]
		found, code := impl.IsomorphismsOf(d, e)
		a, _ := impl.CanonicalDessin(d)
		b, _ := impl.CanonicalDessin(e)
		if code != impl.ErrNone || (a == b) != (len(found) > 0) || !slices.Equal(found, isomorphismsByHand(d, e)) {
			t.Errorf("IsomorphismsOf(%v, %v) = %v, %d", d, e, found, code)
		}
	}
	star, _ := impl.StarDessin(4)
	band, _ := impl.BandDessin(4)
	if found, code := impl.IsomorphismsOf(star, band); len(found) != 0 || code != impl.ErrNone {
		t.Errorf("IsomorphismsOf = %v, %d", found, code)
	}
	long, _ := impl.StarDessin(5)
	for _, c := range [][2]impl.Dessin{{star, long}, {long, star}} {
		if found, code := impl.IsomorphismsOf(c[0], c[1]); len(found) != 0 || code != impl.ErrNone {
			t.Errorf("IsomorphismsOf = %v, %d", found, code)
		}
	}
}

func TestIsomorphismsOfRefuses(t *testing.T) {
	star, _ := impl.StarDessin(3)
	for name, d := range notDessins() {
		for _, c := range [][2]impl.Dessin{{d, d}, {d, star}, {star, d}} {
			if found, code := impl.IsomorphismsOf(c[0], c[1]); len(found) != 0 || code != impl.ErrInvalid {
				t.Errorf("%s: IsomorphismsOf = %v, %d", name, found, code)
			}
		}
		if found, code := impl.AutomorphismsOf(d); len(found) != 0 || code != impl.ErrInvalid {
			t.Errorf("%s: AutomorphismsOf = %v, %d", name, found, code)
		}
		if yes, code := impl.IsRegularDessin(d); yes || code != impl.ErrInvalid {
			t.Errorf("%s: IsRegularDessin = %v, %d", name, yes, code)
		}
	}
}

func TestAutomorphismsOf(t *testing.T) {
	for _, d := range sampleDessins() {
		found, code := impl.AutomorphismsOf(d)
		if code != impl.ErrNone || !slices.Equal(found, isomorphismsByHand(d, d)) {
			t.Fatalf("AutomorphismsOf(%v) = %v, %d", d, found, code)
		}
		if found[0] != staying(d.Darts) || d.Darts%int64(len(found)) != 0 {
			t.Errorf("AutomorphismsOf(%v) = %v", d, found)
		}
		yes, code := impl.IsRegularDessin(d)
		if yes != (int64(len(found)) == d.Darts) || code != impl.ErrNone {
			t.Errorf("IsRegularDessin(%v) = %v, %d", d, yes, code)
		}
	}
	cases := map[string][]impl.Places{
		"1|()|()":                {{0}},
		"3|(0 1 2)|()":           {{0, 1, 2}, {1, 2, 0}, {2, 0, 1}},
		"3|(0 1 2)|(0 1)":        {{0, 1, 2}},
		"3|(1 2)|(0 1)":          {{0, 1, 2}},
		"4|(1 2)|(0 1)(2 3)":     {{0, 1, 2, 3}, {3, 2, 1, 0}},
		"4|(0 1)(2 3)|(0 2)":     {{0, 1, 2, 3}, {2, 3, 0, 1}},
		"4|(0 1)(2 3)|(0 2 1)":   {{0, 1, 2, 3}},
		"4|(0 1)(2 3)|(0 2 1 3)": {{0, 1, 2, 3}, {1, 0, 3, 2}, {2, 3, 1, 0}, {3, 2, 0, 1}},
	}
	for text, want := range cases {
		d, _ := impl.ParseDessin(text)
		if found, code := impl.AutomorphismsOf(d); !slices.Equal(found, want) || code != impl.ErrNone {
			t.Errorf("AutomorphismsOf(%s) = %v, %d", text, found, code)
		}
	}
}

func TestAutomorphismsAreNewMemory(t *testing.T) {
	star, _ := impl.StarDessin(5)
	for range 2 {
		found, _ := impl.AutomorphismsOf(star)
		if len(found) != 5 || found[1] != (impl.Places{1, 2, 3, 4, 0}) {
			t.Fatalf("AutomorphismsOf = %v", found)
		}
		wide := found[:cap(found)]
		clear(wide)
	}
}

func TestIsRegularDessin(t *testing.T) {
	for name, d := range regularDessins() {
		if !impl.IsDessin(d) {
			t.Errorf("%s: %v is no dessin", name, d)
		}
		if yes, code := impl.IsRegularDessin(d); !yes || code != impl.ErrNone {
			t.Errorf("%s: IsRegularDessin = %v, %d", name, yes, code)
		}
	}
	for n := int64(1); n <= 16; n++ {
		star, _ := impl.StarDessin(n)
		chain, _ := impl.ChainDessin(n)
		band, _ := impl.BandDessin(n)
		for _, c := range []struct {
			d    impl.Dessin
			want bool
		}{{star, true}, {chain, n <= 2}, {band, true}} {
			if yes, code := impl.IsRegularDessin(c.d); yes != c.want || code != impl.ErrNone {
				t.Errorf("IsRegularDessin(%v) = %v, %d", c.d, yes, code)
			}
		}
	}
}
