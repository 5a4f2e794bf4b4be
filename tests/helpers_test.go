package tests

import (
	"slices"
	"testing"

	"loop.example/g01200/impl"
)

// source is a row of numbers that is the same in each run.
type source uint64

func (s *source) below(n int) int {
	*s = *s*6364136223846793005 + 1442695040888963407
	return int(uint64(*s)>>33) % n
}

func (s *source) places(n int64) impl.Places {
	p := staying(n)
	for x := int(n) - 1; x > 0; x-- {
		y := s.below(x + 1)
		p[x], p[y] = p[y], p[x]
	}
	return p
}

func staying(n int64) impl.Places {
	var p impl.Places
	for x := range n {
		p[x] = byte(x)
	}
	return p
}

// allPlaces returns all permutations of n numbers.
func allPlaces(n int64) []impl.Places {
	var all []impl.Places
	var extend func(p impl.Places, used map[byte]bool, length int64)
	extend = func(p impl.Places, used map[byte]bool, length int64) {
		if length == n {
			all = append(all, p)
			return
		}
		for y := range byte(n) {
			if !used[y] {
				used[y] = true
				p[length] = y
				extend(p, used, length+1)
				used[y] = false
			}
		}
	}
	extend(impl.Places{}, map[byte]bool{}, 0)
	return all
}

// samplePlaces returns all permutations of at most 5 numbers when n is one of these, and 40 others
// with the staying and the round one for a greater n.
func samplePlaces(n int64) []impl.Places {
	if n <= 5 {
		return allPlaces(n)
	}
	s := source(n)
	round := staying(n)
	for x := range n {
		round[x] = byte((x + 1) % n)
	}
	sample := []impl.Places{staying(n), round}
	for range 40 {
		sample = append(sample, s.places(n))
	}
	return sample
}

// joinsAll reports whether Black and White connect all darts; unlike the program it merges classes.
func joinsAll(d impl.Dessin) bool {
	class := staying(d.Darts)
	for range d.Darts {
		for x := range d.Darts {
			for _, y := range []byte{d.Black[x], d.White[x]} {
				least := min(class[x], class[y])
				class[x], class[y] = least, least
			}
		}
	}
	return class == impl.Places{}
}

// allDessins returns all dessins of n darts.
func allDessins(n int64) []impl.Dessin {
	var all []impl.Dessin
	for _, black := range allPlaces(n) {
		for _, white := range allPlaces(n) {
			if d := (impl.Dessin{Darts: n, Black: black, White: white}); joinsAll(d) {
				all = append(all, d)
			}
		}
	}
	return all
}

// sampleDessins returns all dessins of at most 4 darts, and some of each greater number.
func sampleDessins() []impl.Dessin {
	var sample []impl.Dessin
	for n := int64(1); n <= 4; n++ {
		sample = append(sample, allDessins(n)...)
	}
	s := source(1)
	for n := int64(5); n <= impl.MaxDarts; n++ {
		for range 60 {
			if d := (impl.Dessin{Darts: n, Black: s.places(n), White: s.places(n)}); joinsAll(d) {
				sample = append(sample, d)
			}
		}
	}
	return sample
}

func sameLists(x [][]int64, y [][]int64) bool { return slices.EqualFunc(x, y, slices.Equal) }

func copyLists(x [][]int64) [][]int64 {
	var y [][]int64
	for _, list := range x {
		y = append(y, slices.Clone(list))
	}
	return y
}

// checkOwnMemory overwrites each list that a function returns, with its spare capacity, and fails
// if this changes another list of the same result, or what the function returns next.
func checkOwnMemory(t *testing.T, name string, lists func() [][]int64) {
	t.Helper()
	result := lists()
	want := copyLists(result)
	for i := range result {
		wide := result[i][:cap(result[i])]
		for j := range wide {
			wide[j] = -99
		}
		if !sameLists(result[i+1:], want[i+1:]) {
			t.Errorf("%s: lists of one result share memory", name)
		}
	}
	if !sameLists(lists(), want) {
		t.Errorf("%s: the result is no new memory", name)
	}
}
