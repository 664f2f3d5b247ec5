package tests

import (
	"math"
	"slices"
	"testing"

	"loop.example/g01251/impl"
)

// Tests of chapter 10: errors, their order, and the memory of arguments and results.

// spinFunction is a function that takes a diagram of a size of at most a limit, with the answer whether
// its result is the zero value.
type spinFunction struct {
	limit int64
	find  func(p int64, q int64, d impl.Diagram) (bool, int64)
}

// spun10 are the functions that take a prime, a number q and a diagram, but for ApplyToSpins, whose errors
// have another order.
var spun10 = map[string]spinFunction{
	"SpinEntry": {8, func(p int64, q int64, d impl.Diagram) (bool, int64) {
		entry, code := impl.SpinEntry(p, q, d, 0, 1)
		return entry == 0, code
	}},
	"SpinTable": {4, func(p int64, q int64, d impl.Diagram) (bool, int64) {
		table, code := impl.SpinTable(p, q, d)
		return len(table) == 0, code
	}},
	"SpinRank": {4, func(p int64, q int64, d impl.Diagram) (bool, int64) {
		rank, code := impl.SpinRank(p, q, d)
		return rank == 0, code
	}},
	"SpinBlock": {4, func(p int64, q int64, d impl.Diagram) (bool, int64) {
		block, code := impl.SpinBlock(p, q, d, 1)
		return len(block) == 0, code
	}},
	"WeightedTrace": {6, func(p int64, q int64, d impl.Diagram) (bool, int64) {
		trace, code := impl.WeightedTrace(p, q, d)
		return trace == 0, code
	}},
	"PlainTrace": {6, func(p int64, q int64, d impl.Diagram) (bool, int64) {
		trace, code := impl.PlainTrace(p, q, d)
		return trace == 0, code
	}},
}

// element10 are the functions that take a number q and an element.
var element10 = map[string]func(q int64, x impl.Element) (bool, int64){
	"TableOfElement": func(q int64, x impl.Element) (bool, int64) {
		table, code := impl.TableOfElement(q, x)
		return len(table) == 0, code
	},
	"RankOfElement": func(q int64, x impl.Element) (bool, int64) {
		rank, code := impl.RankOfElement(q, x)
		return rank == 0, code
	},
}

// endsOfSpins are the primes and the numbers q at the ends of their ranges, and just out of them.
func endsOfSpins() [][2]int64 {
	list := [][2]int64{}
	for _, p := range []int64{-1, 0, 1, 2, 3, 4, 7, 96, 97, 98, 101, math.MinInt64, math.MaxInt64} {
		for _, q := range []int64{-1, 0, 1, 2, p - 1, p, p + 1, math.MinInt64, math.MaxInt64} {
			list = append(list, [2]int64{p, q})
		}
	}
	return list
}

// areSpins reports whether p and q are as chapter 10 tells.
func areSpins(p int64, q int64) bool {
	return slices.Contains(primes, p) && q >= 1 && q < p
}

func TestErrorsOfSpinNumbers(t *testing.T) {
	for _, pair := range slices.Concat(badBases(), endsOfSpins()) {
		p, q := pair[0], pair[1]
		want := int64(impl.ErrRange)
		if areSpins(p, q) {
			want = impl.ErrNone
		}
		if c, code := impl.SpinLoop(p, q); code != want || code != impl.ErrNone && c != 0 {
			t.Errorf("SpinLoop(%d, %d) = %d, %d", p, q, c, code)
		}
		for name, function := range spun10 {
			for n := int64(1); n <= 8; n++ {
				for _, d := range []impl.Diagram{modelUnit(n), modelLists[n][catalans[n]-1]} {
					wanted := want
					if n > function.limit {
						wanted = impl.ErrRange
					}
					if zero, code := function.find(p, q, d); code != wanted || code != impl.ErrNone && !zero {
						t.Errorf("%s(%d, %d, %v): code %d", name, p, q, d, code)
					}
				}
			}
		}
	}
}

// TestErrorsOfNoDiagramsOnSpins checks that ErrInvalid comes ahead of ErrRange.
func TestErrorsOfNoDiagramsOnSpins(t *testing.T) {
	for _, bad := range badDiagrams() {
		for _, pair := range endsOfSpins() {
			p, q := pair[0], pair[1]
			for name, function := range spun10 {
				if zero, code := function.find(p, q, bad); !zero || code != impl.ErrInvalid {
					t.Errorf("%s(%d, %d, %v): code %d", name, p, q, bad, code)
				}
			}
			for _, number := range []int64{-1, 0, 1, 256, math.MaxInt64} {
				entry, first := impl.SpinEntry(p, q, bad, number, 0)
				other, second := impl.SpinEntry(p, q, bad, 0, number)
				block, third := impl.SpinBlock(p, q, bad, number)
				if entry != 0 || other != 0 || len(block) != 0 || first != impl.ErrInvalid || second != impl.ErrInvalid || third != impl.ErrInvalid {
					t.Errorf("SpinEntry, SpinBlock(%d, %d, %v) of %d: codes %d, %d, %d", p, q, bad, number, first, second, third)
				}
			}
			for _, x := range [][]int64{nil, {0, 0}, {1, 1, 1, 1}, {-1, 0}, make([]int64, 64), make([]int64, 256)} {
				if y, code := impl.ApplyToSpins(p, q, bad, x); len(y) != 0 || code != impl.ErrInvalid {
					t.Errorf("ApplyToSpins(%d, %d, %v, %v) = %v, %d", p, q, bad, x, y, code)
				}
			}
		}
	}
}

func TestErrorsOfSpinWords(t *testing.T) {
	for n := int64(1); n <= 8; n++ {
		last := int64(1)<<n - 1
		bad := append([]int64{last + 1, last + 2, 2*last + 1, 1 << 16, -last, -last - 1, 1 << 62, 1<<32 + 1}, outside...)
		for _, d := range []impl.Diagram{modelUnit(n), modelLists[n][catalans[n]-1]} {
			for _, number := range bad {
				for _, pair := range [][2]int64{{number, 0}, {0, number}, {number, number}, {last, number}, {number, last}} {
					if entry, code := impl.SpinEntry(7, 3, d, pair[0], pair[1]); entry != 0 || code != impl.ErrRange {
						t.Errorf("SpinEntry(7, 3, %v, %v) = %d, %d", d, pair, entry, code)
					}
				}
			}
			for _, pair := range [][2]int64{{0, 0}, {last, last}, {0, last}, {last, 0}, {1, last - 1}} {
				checkSpinEntry(t, 7, 3, d, pair[0], pair[1], modelSpinEntry(7, 3, d, pair[0], pair[1]))
			}
			for _, pair := range [][2]int64{{4, 1}, {7, 0}, {7, 7}, {101, 1}} {
				if entry, code := impl.SpinEntry(pair[0], pair[1], d, last+1, 0); entry != 0 || code != impl.ErrRange {
					t.Errorf("SpinEntry(%v, %v) = %d, %d", pair, d, entry, code)
				}
			}
		}
	}
}

func TestErrorsOfSpinBlocks(t *testing.T) {
	for n := int64(1); n <= 8; n++ {
		for _, d := range []impl.Diagram{modelUnit(n), modelLists[n][catalans[n]-1]} {
			for _, k := range append([]int64{0, 1, n - 1, n, n + 1, n + 2, 5, 256, 256 + n, 1<<32 + n}, outside...) {
				want := int64(impl.ErrRange)
				if n <= 4 && k >= 0 && k <= n {
					want = impl.ErrNone
				}
				block, code := impl.SpinBlock(7, 3, d, k)
				if code != want || (len(block) == 0) != (want != impl.ErrNone) {
					t.Errorf("SpinBlock(7, 3, %v, %d) = %v, %d", d, k, block, code)
				}
				for _, pair := range [][2]int64{{4, 1}, {7, 0}, {7, 7}, {101, 1}} {
					if block, code := impl.SpinBlock(pair[0], pair[1], d, k); len(block) != 0 || code != impl.ErrRange {
						t.Errorf("SpinBlock(%v, %v, %d) = %v, %d", pair, d, k, block, code)
					}
				}
			}
		}
	}
}

// modelCodeOfVector returns the code of ApplyToSpins, condition by condition.
func modelCodeOfVector(p int64, q int64, d impl.Diagram, x []int64) int64 {
	if !modelIsDiagram(d) {
		return impl.ErrInvalid
	}
	if d.Size > 6 {
		return impl.ErrRange
	}
	if len(x) != 1<<d.Size || !slices.Contains(primes, p) || slices.Min(x) < 0 || slices.Max(x) >= p {
		return impl.ErrInvalid
	}
	if q < 1 || q >= p {
		return impl.ErrRange
	}
	return impl.ErrNone
}

// vectorsAtTheEnds are vectors for words of n letters modulo p, and lists that are just none.
func vectorsAtTheEnds(p int64, n int64) [][]int64 {
	count := 1 << n
	list := [][]int64{nil, {}, make([]int64, count), make([]int64, count-1), make([]int64, count+1), make([]int64, 2*count), make([]int64, n), {0}, {1}}
	for _, number := range []int64{-1, p - 1, p, p + 1, -p, 1, math.MinInt64, math.MaxInt64} {
		for _, place := range []int{0, count / 2, count - 1} {
			x := make([]int64, count)
			x[place] = number
			list = append(list, x)
		}
		// The last number is in its range, but for the number of them.
		list = append(list, append(make([]int64, count), number))
	}
	return list
}

// TestErrorsOfVectors checks the order of the errors of ApplyToSpins: ErrRange for a size that is too
// great, ahead of ErrInvalid for the vector and the prime, ahead of ErrRange for q.
func TestErrorsOfVectors(t *testing.T) {
	bad := []impl.Diagram{{}, {Size: 2, Mate: [16]byte{3, 2, 1, 0}}, {Size: 7}, {Size: 8, Mate: [16]byte{1, 0}}, {Size: 9}}
	for n := int64(1); n <= 8; n++ {
		for _, d := range append(bad, modelUnit(n), modelLists[n][catalans[n]-1]) {
			for _, pair := range endsOfSpins() {
				p, q := pair[0], pair[1]
				for _, x := range vectorsAtTheEnds(p, n) {
					want := modelCodeOfVector(p, q, d, x)
					y, code := impl.ApplyToSpins(p, q, d, x)
					if code != want || len(y) != len(x)*b2i(code == impl.ErrNone) {
						t.Fatalf("ApplyToSpins(%d, %d, %v, %v) = %v, %d, not %d", p, q, d, x, y, code, want)
					}
				}
			}
		}
	}
}

func TestErrorsOfVectorsByHand(t *testing.T) {
	zeros := func(count int) []int64 { return make([]int64, count) }
	for _, row := range []struct {
		p, q, n int64
		x       []int64
		want    int64
	}{
		{7, 3, 2, zeros(4), impl.ErrNone}, {7, 3, 2, zeros(3), impl.ErrInvalid}, {7, 3, 2, zeros(5), impl.ErrInvalid}, {7, 3, 2, nil, impl.ErrInvalid}, {7, 3, 1, []int64{}, impl.ErrInvalid},
		{7, 3, 1, []int64{6, 6}, impl.ErrNone}, {7, 3, 1, []int64{7, 6}, impl.ErrInvalid}, {7, 3, 1, []int64{6, 7}, impl.ErrInvalid}, {7, 3, 1, []int64{-1, 0}, impl.ErrInvalid}, {2, 1, 1, []int64{1, 1}, impl.ErrNone}, {2, 1, 1, []int64{1, 2}, impl.ErrInvalid},
		{4, 1, 1, zeros(2), impl.ErrInvalid}, {101, 1, 1, zeros(2), impl.ErrInvalid}, {1, 1, 1, zeros(2), impl.ErrInvalid}, {0, 1, 1, zeros(2), impl.ErrInvalid}, {-1, 1, 1, zeros(2), impl.ErrInvalid}, {4, 0, 1, zeros(2), impl.ErrInvalid},
		{7, 0, 1, zeros(2), impl.ErrRange}, {7, 7, 1, zeros(2), impl.ErrRange}, {7, -1, 1, zeros(2), impl.ErrRange}, {2, 2, 1, zeros(2), impl.ErrRange}, {7, 0, 1, zeros(3), impl.ErrInvalid}, {7, 7, 1, []int64{7, 7}, impl.ErrInvalid},
		{7, 3, 6, zeros(64), impl.ErrNone}, {97, 96, 6, zeros(63), impl.ErrInvalid}, {97, 96, 6, zeros(65), impl.ErrInvalid}, {97, 96, 6, zeros(64), impl.ErrNone},
		{7, 3, 7, zeros(128), impl.ErrRange}, {7, 3, 8, zeros(256), impl.ErrRange}, {7, 3, 7, nil, impl.ErrRange}, {7, 3, 8, []int64{-1}, impl.ErrRange}, {4, 1, 7, zeros(128), impl.ErrRange}, {101, 0, 8, zeros(3), impl.ErrRange}, {7, 0, 7, zeros(128), impl.ErrRange},
	} {
		y, code := impl.ApplyToSpins(row.p, row.q, modelUnit(row.n), row.x)
		if code != row.want || code == impl.ErrNone && !slices.Equal(y, row.x) || code != impl.ErrNone && len(y) != 0 {
			t.Errorf("ApplyToSpins(%d, %d, the unit of %d, %v) = %v, %d, not %d", row.p, row.q, row.n, row.x, y, code, row.want)
		}
	}
}

// TestErrorsOfNoElementsOnSpins checks that ErrInvalid comes ahead of ErrRange.
func TestErrorsOfNoElementsOnSpins(t *testing.T) {
	for _, bad := range badElements() {
		for _, q := range append([]int64{0, 1, 2, 4, 5, 97}, outside...) {
			for name, find := range element10 {
				if zero, code := find(q, bad); !zero || code != impl.ErrInvalid {
					t.Errorf("%s(%d, %v): code %d", name, q, bad, code)
				}
			}
		}
	}
}

// TestErrorsOfElementsOnSpins goes through all loops and numbers q of some primes, and through elements
// of all sizes, without terms, with one and with many.
func TestErrorsOfElementsOnSpins(t *testing.T) {
	for _, p := range []int64{2, 3, 5, 7, 97} {
		for n := int64(1); n <= 8; n++ {
			for c := range p {
				if p == 97 && c > 2 && c < 95 && c%9 > 0 {
					continue
				}
				zero := impl.Element{Prime: p, Loop: c, Size: n}
				for _, q := range append([]int64{0, 1, 2, 3, 4, 5, 6, p - 1, p, p + 1, 22, 75}, outside...) {
					want := int64(impl.ErrRange)
					if loop, _ := modelSpinLoop(p, q); areSpins(p, q) && loop == c && n <= 4 {
						want = impl.ErrNone
					}
					for _, x := range []impl.Element{zero, modelOne(zero), firstTerms(p, c, n, 0, int(min(catalans[n], 140)))} {
						for name, find := range element10 {
							isZero, code := find(q, x)
							if code != want || code != impl.ErrNone && !isZero {
								t.Fatalf("%s(%d, %v): code %d, not %d", name, q, x, code, want)
							}
						}
					}
				}
			}
		}
	}
}

// TestMemoryOfSpinTables checks that the rows of tables and blocks share no memory, also in the greatest
// tables.
func TestMemoryOfSpinTables(t *testing.T) {
	for n := int64(1); n <= 4; n++ {
		for _, d := range []impl.Diagram{modelUnit(n), modelLists[n][catalans[n]-1], modelLists[n][catalans[n]/2]} {
			checkRowsOfTable(t, "SpinTable", func() [][]int64 { return spun(t, 97, 5, d) })
			for k := range n + 1 {
				checkRowsOfTable(t, "SpinBlock", func() [][]int64 {
					block, _ := impl.SpinBlock(97, 5, d, k)
					return block
				})
			}
		}
	}
	for _, x := range spinElements(97, 5) {
		checkRowsOfTable(t, "TableOfElement", func() [][]int64 { return spunElement(t, 5, x) })
	}
}

// TestMemoryOfSpinVectors checks that vectors are not changed, nor the spare capacity behind them, and
// that results share no memory with them.
func TestMemoryOfSpinVectors(t *testing.T) {
	s := sampler(5)
	for n := int64(1); n <= 8; n++ {
		for _, d := range []impl.Diagram{modelUnit(n), modelLists[n][catalans[n]-1]} {
			for _, want := range [][]int64{s.vector(7, n), s.vector(97, n), make([]int64, 1<<n), s.vector(7, n)[1:]} {
				x := roomy(want)
				impl.ApplyToSpins(4, 1, d, x)
				impl.ApplyToSpins(7, 0, d, x)
				y, code := impl.ApplyToSpins(7, 3, d, x)
				if !isRoomy(x, want) {
					t.Errorf("%v became %v", want, x[:len(want)+3])
				}
				if code != impl.ErrNone {
					continue
				}
				kept := slices.Clone(y)
				fill(y)
				if again := made(t, 7, 3, d, x); !isRoomy(x, want) || !slices.Equal(again, kept) {
					t.Errorf("ApplyToSpins(7, 3, %v, %v) shares memory", d, want)
				}
			}
		}
	}
}

// TestMemoryOfSpinElements checks that elements are not changed, nor the spare capacity behind their
// terms.
func TestMemoryOfSpinElements(t *testing.T) {
	list := append(spinElements(97, 5), firstTerms(97, 53, 6, 0, 132), firstTerms(97, 53, 8, 1000, 140), firstTerms(97, 52, 4, 0, 14))
	for _, x := range list {
		y := spared(x)
		for _, q := range []int64{5, 39, 0, 1, 97} {
			for name, find := range element10 {
				find(q, y)
				if !isSpared(x, y) {
					t.Fatalf("%s(%d) changed %v", name, q, x)
				}
			}
		}
		if x.Size <= 4 && x.Loop == 53 {
			table, code := impl.TableOfElement(5, y)
			for _, row := range table {
				fill(row)
			}
			if !isSpared(x, y) || code != impl.ErrNone {
				t.Errorf("TableOfElement(5, %v) shares memory, code %d", x, code)
			}
		}
	}
}
