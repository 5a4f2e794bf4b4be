package tests

import (
	"slices"

	"loop.example/g01200/impl"
)

// renamedByHand looks at each step of d, and writes it with the new names.
func renamedByHand(d impl.Dessin, p impl.Places) impl.Dessin {
	e := impl.Dessin{Darts: d.Darts}
	for x := range d.Darts {
		e.Black[p[x]] = p[d.Black[x]]
		e.White[p[x]] = p[d.White[x]]
	}
	return e
}

// namingByHand gives one name after the other to the first dart that the document tells.
func namingByHand(d impl.Dessin, x int64) impl.Places {
	names := map[byte]byte{byte(x): 0}
	for int64(len(names)) < d.Darts {
		names[nextNamed(d, names)] = byte(len(names))
	}
	var p impl.Places
	for dart, name := range names {
		p[dart] = name
	}
	return p
}

func nextNamed(d impl.Dessin, names map[byte]byte) byte {
	dartOf := map[byte]byte{}
	for dart, name := range names {
		dartOf[name] = dart
	}
	for name := range byte(len(names)) {
		for _, next := range []byte{d.Black[dartOf[name]], d.White[dartOf[name]]} {
			if _, named := names[next]; !named {
				return next
			}
		}
	}
	panic("no dessin")
}

func listOfDessin(d impl.Dessin) []byte {
	return append(slices.Clone(d.Black[:d.Darts]), d.White[:d.Darts]...)
}

// canonicalByHand is the least form as a list.
func canonicalByHand(d impl.Dessin) impl.Dessin {
	var forms []impl.Dessin
	for x := range d.Darts {
		forms = append(forms, renamedByHand(d, namingByHand(d, x)))
	}
	return slices.MinFunc(forms, func(a, b impl.Dessin) int {
		return slices.Compare(listOfDessin(a), listOfDessin(b))
	})
}

// dessinOfProducts has as darts the elements of a group, numbered from 0 on, that the numbers b and
// w generate; Black and White multiply with these from the right.
func dessinOfProducts(order int64, times func(x, y int64) int64, b, w int64) impl.Dessin {
	d := impl.Dessin{Darts: order}
	for x := range order {
		d.Black[x], d.White[x] = byte(times(x, b)), byte(times(x, w))
	}
	return d
}

// dihedral multiplies turns (the even numbers) and reflections (the odd ones) of a polygon of n.
func dihedral(n int64) func(x, y int64) int64 {
	return func(x, y int64) int64 {
		turn := x/2 + y/2
		if x%2 == 1 {
			turn = x/2 - y/2 + n
		}
		return turn%n*2 + (x+y)%2
	}
}

// regularDessins are dessins of groups with as many elements as darts.
func regularDessins() map[string]impl.Dessin {
	modulo := func(n int64) func(x, y int64) int64 {
		return func(x, y int64) int64 { return (x + y) % n }
	}
	twoTurns := func(x, y int64) int64 { return (x/4+y/4)%4*4 + (x+y)%4 }
	return map[string]impl.Dessin{
		"one dart":          dessinOfProducts(1, modulo(1), 0, 0),
		"the star of 16":    dessinOfProducts(16, modulo(16), 1, 0),
		"the band of 16":    dessinOfProducts(16, modulo(16), 1, 15),
		"a torus of 7":      dessinOfProducts(7, modulo(7), 1, 2),
		"a cyclic one of 6": dessinOfProducts(6, modulo(6), 2, 3),
		"of two and two":    dessinOfProducts(4, func(x, y int64) int64 { return x ^ y }, 1, 2),
		"of four and four":  dessinOfProducts(16, twoTurns, 1, 4),
		"the triangle":      dessinOfProducts(6, dihedral(3), 2, 1),
		"two reflections":   dessinOfProducts(10, dihedral(5), 1, 3),
		"the octagon":       dessinOfProducts(16, dihedral(8), 2, 1),
	}
}

// renamings returns all permutations of the darts, or some of many.
func renamings(d impl.Dessin) []impl.Places {
	if d.Darts <= 3 {
		return allPlaces(d.Darts)
	}
	s := source(d.Darts)
	sample := []impl.Places{staying(d.Darts)}
	for range 4 {
		sample = append(sample, s.places(d.Darts))
	}
	return sample
}
