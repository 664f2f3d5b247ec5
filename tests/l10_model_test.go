package tests

import (
	"fmt"
	"slices"
	"strings"
	"testing"

	"loop.example/g01251/impl"
)

// This file holds a second, slow reading of chapter 10, against which the package is tested. It reads
// entries from texts of diagrams with the letters of words put around them, and finds what diagrams make
// of vectors in another way too: as what the generators of their words make of them, one after the
// other.

// modelLetters returns the word of n letters with a number.
func modelLetters(n int64, number int64) string {
	return fmt.Sprintf("%0*b", int(n), number)
}

// modelNumber returns the number of a word.
func modelNumber(letters string) int64 {
	number := int64(0)
	for i := range letters {
		number = 2*number + int64(b2i(letters[i] == '1'))
	}
	return number
}

// modelLettersAround returns the letters of the words with two numbers in the order of places.
func modelLettersAround(n int64, u int64, v int64) string {
	lower := []byte(modelLetters(n, v))
	slices.Reverse(lower)
	return modelLetters(n, u) + string(lower)
}

// modelSpinLoop returns the loop value, and the inverse of q.
func modelSpinLoop(p int64, q int64) (int64, int64) {
	r := modelInverse(p, q)
	for c := range p {
		if (c+q+r)%p == 0 {
			return c, r
		}
	}
	return -1, r
}

// modelSpinEntry returns the entry of d at the words with two numbers. It goes through the text of d,
// and keeps the places of brackets that are open.
func modelSpinEntry(p int64, q int64, d impl.Diagram, u int64, v int64) int64 {
	n := int(d.Size)
	around := modelLettersAround(d.Size, u, v)
	r := modelInverse(p, q)
	upper, lower := map[byte]int64{'0': p - 1, '1': q}, map[byte]int64{'0': r, '1': p - 1}
	entry := int64(1)
	open := []int{}
	for b, bracket := range modelText(d) {
		if bracket == '(' {
			open = append(open, b)
			continue
		}
		a := open[len(open)-1]
		open = open[:len(open)-1]
		switch {
		case a < n && b >= n:
			entry *= int64(b2i(around[a] == around[b]))
		case b < n:
			entry *= upper[around[a]] * int64(b2i(around[a] != around[b]))
		default:
			// Lower places go from the right to the left.
			entry *= lower[around[b]] * int64(b2i(around[a] != around[b]))
		}
		entry %= p
	}
	return entry
}

// modelSpinTable returns the table of d.
func modelSpinTable(p int64, q int64, d impl.Diagram) [][]int64 {
	count := int64(1) << d.Size
	table := [][]int64{}
	for u := range count {
		row := []int64{}
		for v := range count {
			row = append(row, modelSpinEntry(p, q, d, u, v))
		}
		table = append(table, row)
	}
	return table
}

// modelTurned returns what the generator i makes of a vector: of two letters 01 at i and i + 1 it makes
// -r times them and 10, of 10 it makes 01 and -q times them, and of equal ones nothing.
func modelTurned(p int64, q int64, n int64, i int64, x []int64) []int64 {
	r := modelInverse(p, q)
	made := make([]int64, len(x))
	for number, factor := range x {
		letters := modelLetters(n, int64(number))
		ahead, behind := letters[:i], letters[i+2:]
		first, second := modelNumber(ahead+"01"+behind), modelNumber(ahead+"10"+behind)
		switch letters[i : i+2] {
		case "01":
			made[first] += factor * (p - r)
			made[second] += factor
		case "10":
			made[first] += factor
			made[second] += factor * (p - q)
		}
	}
	for number := range made {
		made[number] %= p
	}
	return made
}

// modelMade returns what d makes of a vector, by a word in generators with d as its value.
func modelMade(p int64, q int64, d impl.Diagram, x []int64) []int64 {
	word := modelWords[d.Size][d].word
	made := slices.Clone(x)
	for k := len(word) - 1; k >= 0; k-- {
		made = modelTurned(p, q, d.Size, word[k], made)
	}
	return made
}

// modelColumn returns the vector of 0 for all words of n letters but one, for which it has 1.
func modelColumn(n int64, v int64) []int64 {
	x := make([]int64, 1<<n)
	x[v] = 1
	return x
}

// modelSpinTrace returns the sum of the entries of d at all u and u, times numbers for the letters.
func modelSpinTrace(p int64, q int64, d impl.Diagram, zero int64, one int64) int64 {
	total := int64(0)
	for u := range int64(1) << d.Size {
		entry := modelSpinEntry(p, q, d, u, u)
		for _, letter := range modelLetters(d.Size, u) {
			entry = entry * map[rune]int64{'0': zero, '1': one}[letter] % p
		}
		total += entry
	}
	return total % p
}

// modelThrough returns how many lines go through.
func modelThrough(d impl.Diagram) int {
	return strings.Count(modelHalf(d, 0), "|")
}

// modelTableOfElement returns the table of x.
func modelTableOfElement(q int64, x impl.Element) [][]int64 {
	p, count := x.Prime, int64(1)<<x.Size
	table := [][]int64{}
	for u := range count {
		row := make([]int64, count)
		for _, term := range x.Terms {
			for v := range count {
				row[v] = (row[v] + term.Factor*modelSpinEntry(p, q, term.Diagram, u, v)) % p
			}
		}
		table = append(table, row)
	}
	return table
}

// modelPlus returns the sum of two tables.
func modelPlus(p int64, a [][]int64, b [][]int64) [][]int64 {
	table := [][]int64{}
	for i, row := range a {
		sums := []int64{}
		for j, number := range row {
			sums = append(sums, (number+b[i][j])%p)
		}
		table = append(table, sums)
	}
	return table
}

// modelDiagonal returns the table with a number for all words of n letters with themselves.
func modelDiagonal(n int64, number int64) [][]int64 {
	table := [][]int64{}
	for u := range int64(1) << n {
		row := make([]int64, 1<<n)
		row[u] = number
		table = append(table, row)
	}
	return table
}

// someSpins are some primes with numbers q: 1 and p - 1, which are their own inverses, and such with the
// loop value 0 are among them.
func someSpins() [][2]int64 {
	return [][2]int64{{2, 1}, {3, 1}, {3, 2}, {5, 2}, {7, 1}, {7, 3}, {7, 6}, {41, 9}, {97, 1}, {97, 5}, {97, 22}, {97, 96}}
}

// vector picks a vector for words of n letters.
func (s *sampler) vector(p int64, n int64) []int64 {
	x := make([]int64, 1<<n)
	for number := range x {
		x[number] = s.below(p)
	}
	return x
}

// spinWord picks the number of a word for the points of d on one side, whose first point is given, with
// different letters at both ends of lines between them.
func (s *sampler) spinWord(d impl.Diagram, first int64) int64 {
	letters := []byte(strings.Repeat("0", int(d.Size)))
	for i := range letters {
		letters[i] = "01"[s.below(2)]
	}
	modelArcs(modelHalf(d, int(first)), func(i int, j int) { letters[j] = '0' + '1' - letters[i] })
	return modelNumber(string(letters))
}

// spinPair picks the numbers of two words at which the entry of d is not 0: lines that go through have
// equal letters too.
func (s *sampler) spinPair(d impl.Diagram) (int64, int64) {
	n := int(d.Size)
	u := s.spinWord(d, 0)
	lower := []byte(modelLetters(d.Size, s.spinWord(d, d.Size)))
	for i, letter := range modelLetters(d.Size, u) {
		if mate := int(d.Mate[i]); mate >= n {
			lower[mate-n] = byte(letter)
		}
	}
	return u, modelNumber(string(lower))
}

// spun returns a table of a diagram.
func spun(t *testing.T, p int64, q int64, d impl.Diagram) [][]int64 {
	t.Helper()
	table, code := impl.SpinTable(p, q, d)
	if code != impl.ErrNone {
		t.Fatalf("SpinTable(%d, %d, %v): code %d", p, q, d, code)
	}
	return table
}

// made returns what a diagram makes of a vector.
func made(t *testing.T, p int64, q int64, d impl.Diagram, x []int64) []int64 {
	t.Helper()
	y, code := impl.ApplyToSpins(p, q, d, x)
	if code != impl.ErrNone {
		t.Fatalf("ApplyToSpins(%d, %d, %v, %v): code %d", p, q, d, x, code)
	}
	return y
}

// spunElement returns a table of an element.
func spunElement(t *testing.T, q int64, x impl.Element) [][]int64 {
	t.Helper()
	table, code := impl.TableOfElement(q, x)
	if code != impl.ErrNone {
		t.Fatalf("TableOfElement(%d, %v): code %d", q, x, code)
	}
	return table
}

// spinElements returns elements of the sizes 1 to 4 whose Loop is the loop value: without terms, with
// one, with some and with all, and the unit.
func spinElements(p int64, q int64) []impl.Element {
	c, _ := modelSpinLoop(p, q)
	s := sampler(p*100 + q)
	list := []impl.Element{}
	for n := int64(1); n <= 4; n++ {
		zero := impl.Element{Prime: p, Loop: c, Size: n}
		list = append(list, zero, modelOne(zero), firstTerms(p, c, n, 0, int(catalans[n])), firstTerms(p, c, n, int(catalans[n])-1, 1))
		for _, terms := range []int64{1, 2, 5, 12} {
			list = append(list, s.element(p, c, n, terms))
		}
	}
	return list
}
