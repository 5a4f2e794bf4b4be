package tests

import (
	"math"
	"slices"
	"testing"

	"loop.example/g01200/impl"
)

// spot is a dart of one dessin beside a dart of another one.
type spot [2]int64

func (s spot) afterBlack(d, e impl.Dessin) spot {
	return spot{int64(d.Black[s[0]]), int64(e.Black[s[1]])}
}

func (s spot) afterWhite(d, e impl.Dessin) spot {
	return spot{int64(d.White[s[0]]), int64(e.White[s[1]])}
}

// spotsByHand names one spot after the other, always the first one that the document tells.
func spotsByHand(d, e impl.Dessin, start spot) []spot {
	spots := []spot{start}
	for {
		before := len(spots)
		for _, at := range spots {
			next := at.afterBlack(d, e)
			if slices.Contains(spots, next) {
				next = at.afterWhite(d, e)
			}
			if !slices.Contains(spots, next) {
				spots = append(spots, next)
				break
			}
		}
		if len(spots) == before {
			return spots
		}
	}
}

func productByHand(d, e impl.Dessin, spots []spot) impl.Dessin {
	made := impl.Dessin{Darts: int64(len(spots))}
	for i, at := range spots {
		made.Black[i] = byte(slices.Index(spots, at.afterBlack(d, e)))
		made.White[i] = byte(slices.Index(spots, at.afterWhite(d, e)))
	}
	return made
}

// pairsOfDessins are dessins whose products have few or many darts.
func pairsOfDessins() [][2]impl.Dessin {
	var pairs [][2]impl.Dessin
	var few []impl.Dessin
	for n := int64(1); n <= 4; n++ {
		for i, d := range allDessins(n) {
			if n < 3 || i%(17*int(n)) == 0 {
				few = append(few, d)
			}
		}
	}
	for _, d := range few {
		for _, e := range few {
			pairs = append(pairs, [2]impl.Dessin{d, e})
		}
	}
	sample := sampleDessins()
	for i, d := range sample {
		if i%29 == 0 {
			e := sample[i*7919%len(sample)]
			pairs = append(pairs, [2]impl.Dessin{d, e}, [2]impl.Dessin{d, d})
		}
	}
	for _, d := range regularDessins() {
		for _, e := range quotientsByHand(d) {
			pairs = append(pairs, [2]impl.Dessin{d, e}, [2]impl.Dessin{e, d}, [2]impl.Dessin{e, e})
		}
	}
	return pairs
}

func TestProductAt(t *testing.T) {
	made, refused := 0, 0
	for _, c := range pairsOfDessins() {
		d, e := c[0], c[1]
		for x := range d.Darts {
			y := x * 5 % e.Darts
			spots := spotsByHand(d, e, spot{x, y})
			product, code := impl.ProductAt(d, e, x, y)
			if len(spots) > 16 {
				refused++
				if product != (impl.Dessin{}) || code != impl.ErrLimit {
					t.Fatalf("ProductAt(%v, %v, %d, %d) = %v, %d", d, e, x, y, product, code)
				}
				continue
			}
			made++
			if product != productByHand(d, e, spots) || code != impl.ErrNone || !impl.IsDessin(product) {
				t.Fatalf("ProductAt(%v, %v, %d, %d) = %v, %d", d, e, x, y, product, code)
			}
		}
	}
	if made == 0 || refused == 0 {
		t.Errorf("%d products were made, %d refused", made, refused)
	}
}

func TestProductsLeadToBothDessins(t *testing.T) {
	for _, c := range pairsOfDessins() {
		d, e := c[0], c[1]
		product, code := impl.ProductAt(d, e, d.Darts-1, 0)
		if code != impl.ErrNone {
			continue
		}
		for _, side := range []struct {
			to impl.Dessin
			at int64
		}{{d, d.Darts - 1}, {e, 0}} {
			found, _ := impl.MorphismsOf(product, side.to)
			if !slices.ContainsFunc(found, func(list []int64) bool { return list[0] == side.at }) {
				t.Errorf("the product %v of %v and %v leads not from 0 to %d", product, d, e, side.at)
			}
		}
	}
}

// TestProductsWithOneDart: these, and those of a dessin with itself at one dart, are forms.
func TestProductsWithOneDart(t *testing.T) {
	one, _ := impl.StarDessin(1)
	for _, d := range sampleDessins() {
		for x := range d.Darts {
			form := renamedByHand(d, namingByHand(d, x))
			left, a := impl.ProductAt(d, one, x, 0)
			right, b := impl.ProductAt(one, d, 0, x)
			same, c := impl.ProductAt(d, d, x, x)
			if left != form || right != form || same != form || a != impl.ErrNone || b != impl.ErrNone || c != impl.ErrNone {
				t.Fatalf("ProductAt %d of %v = %v, %v, %v", x, d, left, right, same)
			}
		}
	}
}

func TestProductAtKnownDarts(t *testing.T) {
	cases := []struct {
		d    string
		e    string
		x    int64
		y    int64
		want string
	}{
		{"1|()|()", "1|()|()", 0, 0, "1|()|()"},
		{"2|(0 1)|()", "2|()|(0 1)", 0, 0, "4|(0 1)(2 3)|(0 2)(1 3)"},
		{"2|(0 1)|()", "3|(0 1 2)|()", 1, 2, "6|(0 1 2 3 4 5)|()"},
		{"3|(0 1 2)|()", "3|(0 1 2)|()", 0, 1, "3|(0 1 2)|()"},
		{"3|(0 1 2)|()", "3|(0 2 1)|()", 2, 1, "3|(0 1 2)|()"},
		{"4|(0 1 2 3)|()", "2|(0 1)|(0 1)", 0, 1, "8|(0 1 3 5)(2 4 6 7)|(0 2)(1 4)(3 6)(5 7)"},
		{"3|(1 2)|(0 1)", "3|(1 2)|(0 1)", 0, 0, "3|(1 2)|(0 1)"},
		{"3|(1 2)|(0 1)", "3|(1 2)|(0 1)", 0, 1, "6|(0 1)(2 4)(3 5)|(0 2)(1 3)(4 5)"},
	}
	for _, c := range cases {
		d, _ := impl.ParseDessin(c.d)
		e, _ := impl.ParseDessin(c.e)
		product, code := impl.ProductAt(d, e, c.x, c.y)
		if text, _ := impl.DessinText(product); text != c.want || code != impl.ErrNone {
			t.Errorf("ProductAt(%s, %s, %d, %d) = %s, %d", c.d, c.e, c.x, c.y, text, code)
		}
	}
}

func TestProductAtLimit(t *testing.T) {
	for n := int64(1); n <= 16; n++ {
		for m := int64(1); m <= 16; m++ {
			d, _ := impl.StarDessin(n)
			e, _ := impl.StarDessin(m)
			size := n * m
			for a, b := n, m; ; a, b = b, a%b {
				if b == 0 {
					size /= a
					break
				}
			}
			want, code := impl.StarDessin(size)
			if code != impl.ErrNone {
				code = impl.ErrLimit
			}
			if product, found := impl.ProductAt(d, e, n-1, m/2); product != want || found != code {
				t.Errorf("ProductAt of the stars of %d and %d = %v, %d", n, m, product, found)
			}
		}
	}
}

func TestProductAtRefuses(t *testing.T) {
	star, _ := impl.StarDessin(3)
	check := func(name string, d, e impl.Dessin, x, y, want int64) {
		if product, code := impl.ProductAt(d, e, x, y); product != (impl.Dessin{}) || code != want {
			t.Errorf("%s: ProductAt(%v, %v, %d, %d) = %v, %d", name, d, e, x, y, product, code)
		}
	}
	for name, d := range notDessins() {
		for _, x := range []int64{0, -1, 16} {
			check(name, d, d, x, x, impl.ErrInvalid)
			check(name, d, star, x, x, impl.ErrInvalid)
			check(name, star, d, x, x, impl.ErrInvalid)
		}
	}
	for n := int64(1); n <= 16; n++ {
		// Many of these products exceed the limit, too, which is told after the range.
		long, _ := impl.StarDessin(n)
		other, _ := impl.BandDessin(17 - n)
		for _, x := range []int64{-1, n, n + 1, 255, 256, 1 << 32, math.MinInt64, math.MaxInt64} {
			check("x out of range", long, other, x, 0, impl.ErrRange)
			check("y out of range", other, long, 0, x, impl.ErrRange)
			check("both out of range", long, long, x, x, impl.ErrRange)
		}
	}
	d, _ := impl.StarDessin(16)
	e, _ := impl.StarDessin(15)
	check("x of the other one", e, d, 15, 0, impl.ErrRange)
	check("y of the other one", d, e, 0, 15, impl.ErrRange)
	check("too many darts", d, e, 15, 14, impl.ErrLimit)
}

// sizesByHand takes the pieces of spots that are left, one after the other, and counts them.
func sizesByHand(d, e impl.Dessin) []int64 {
	piece := map[spot]spot{}
	for x := range d.Darts {
		for y := range e.Darts {
			at := spot{x, y}
			if _, known := piece[at]; known {
				continue
			}
			stack := []spot{at}
			for len(stack) > 0 {
				s := stack[len(stack)-1]
				stack = stack[:len(stack)-1]
				if _, known := piece[s]; !known {
					piece[s] = at
					stack = append(stack, s.afterBlack(d, e), s.afterWhite(d, e))
				}
			}
		}
	}
	counts := map[spot]int64{}
	for _, first := range piece {
		counts[first]++
	}
	var sizes []int64
	for _, n := range counts {
		sizes = append(sizes, n)
	}
	slices.Sort(sizes)
	return sizes
}

func TestProductSizes(t *testing.T) {
	lengths := map[int]bool{}
	for _, c := range pairsOfDessins() {
		d, e := c[0], c[1]
		sizes, code := impl.ProductSizes(d, e)
		if !slices.Equal(sizes, sizesByHand(d, e)) || code != impl.ErrNone {
			t.Fatalf("ProductSizes(%v, %v) = %v, %d", d, e, sizes, code)
		}
		lengths[len(slices.Compact(slices.Clone(sizes)))] = true
	}
	if !lengths[1] || !lengths[2] {
		t.Errorf("numbers of different sizes that are tested: %v", lengths)
	}
}

func TestProductSizesOfKnownDessins(t *testing.T) {
	cases := []struct {
		d    string
		e    string
		want []int64
	}{
		{"1|()|()", "1|()|()", []int64{1}},
		{"3|(0 1 2)|()", "1|()|()", []int64{3}},
		{"3|(0 1 2)|()", "3|(0 1 2)|()", []int64{3, 3, 3}},
		{"3|(0 1 2)|()", "2|(0 1)|()", []int64{6}},
		{"4|(0 1 2 3)|()", "2|(0 1)|()", []int64{4, 4}},
		{"2|(0 1)|()", "4|(0 1 2 3)|()", []int64{4, 4}},
		{"3|(1 2)|(0 1)", "3|(1 2)|(0 1)", []int64{3, 6}},
		{"4|(0 1 2)|(2 3)", "4|(0 1 2)|(2 3)", []int64{4, 12}},
	}
	for _, c := range cases {
		d, _ := impl.ParseDessin(c.d)
		e, _ := impl.ParseDessin(c.e)
		sizes, code := impl.ProductSizes(d, e)
		if !slices.Equal(sizes, c.want) || code != impl.ErrNone {
			t.Errorf("ProductSizes(%s, %s) = %v, %d", c.d, c.e, sizes, code)
		}
		clear(sizes[:cap(sizes)])
		if again, _ := impl.ProductSizes(d, e); !slices.Equal(again, c.want) {
			t.Errorf("ProductSizes(%s, %s): the result is no new memory", c.d, c.e)
		}
	}
}

// TestProductSizesBeyondTheLimit: the limit of darts is none of these numbers.
func TestProductSizesBeyondTheLimit(t *testing.T) {
	long, _ := impl.StarDessin(16)
	other, _ := impl.StarDessin(15)
	back := impl.Dessin{Darts: 16, Black: long.White, White: long.Black}
	for _, c := range []struct {
		e    impl.Dessin
		want []int64
	}{{other, []int64{240}}, {back, []int64{256}}, {long, slices.Repeat([]int64{16}, 16)}} {
		if sizes, code := impl.ProductSizes(long, c.e); !slices.Equal(sizes, c.want) || code != impl.ErrNone {
			t.Errorf("ProductSizes(%v, %v) = %v, %d", long, c.e, sizes, code)
		}
	}
}

func TestProductSizesRefuses(t *testing.T) {
	star, _ := impl.StarDessin(3)
	for name, d := range notDessins() {
		for _, c := range [][2]impl.Dessin{{d, d}, {d, star}, {star, d}} {
			if sizes, code := impl.ProductSizes(c[0], c[1]); len(sizes) != 0 || code != impl.ErrInvalid {
				t.Errorf("%s: ProductSizes = %v, %d", name, sizes, code)
			}
		}
	}
}
