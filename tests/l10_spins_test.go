package tests

import (
	"slices"
	"strings"
	"sync"
	"testing"

	"loop.example/g01251/impl"
)

// Tests of chapter 10: what its functions return without errors.

func TestLimitOfSpins(t *testing.T) {
	if impl.MaxSpins != 6 {
		t.Errorf("MaxSpins = %d", impl.MaxSpins)
	}
}

// TestSpinLoops goes through all primes and numbers q.
func TestSpinLoops(t *testing.T) {
	forModuli(func(p int64, q int64) {
		if q == 0 {
			return
		}
		want, r := modelSpinLoop(p, q)
		for _, number := range []int64{q, r} {
			if c, code := impl.SpinLoop(p, number); c != want || code != impl.ErrNone {
				t.Errorf("SpinLoop(%d, %d) = %d, %d, not %d", p, number, c, code, want)
			}
		}
	})
}

func TestSpinLoopsByHand(t *testing.T) {
	for _, row := range [][3]int64{{7, 1, 5}, {2, 1, 0}, {3, 1, 1}, {3, 2, 2}, {5, 1, 3}, {5, 2, 0}, {5, 3, 0}, {5, 4, 2}, {7, 2, 1}, {7, 3, 6}, {7, 6, 2}, {13, 5, 0}, {41, 9, 0}, {97, 1, 95}, {97, 22, 0}, {97, 96, 2}} {
		if c, code := impl.SpinLoop(row[0], row[1]); c != row[2] || code != impl.ErrNone {
			t.Errorf("SpinLoop(%d, %d) = %d, %d, not %d", row[0], row[1], c, code, row[2])
		}
	}
}

// checkSpinEntry compares one entry.
func checkSpinEntry(t *testing.T, p int64, q int64, d impl.Diagram, u int64, v int64, want int64) {
	t.Helper()
	if got, code := impl.SpinEntry(p, q, d, u, v); got != want || code != impl.ErrNone {
		t.Fatalf("SpinEntry(%d, %d, %s, %d, %d) = %d, %d, not %d", p, q, modelText(d), u, v, got, code, want)
	}
}

// TestSpinEntries goes through all entries of small diagrams.
func TestSpinEntries(t *testing.T) {
	forBases(func(p int64, q int64) {
		for n := int64(1); n <= 4; n++ {
			for _, d := range modelLists[n] {
				for u := range int64(1) << n {
					for v := range int64(1) << n {
						checkSpinEntry(t, p, q, d, u, v, modelSpinEntry(p, q, d, u, v))
					}
				}
			}
		}
	})
}

// TestSpinEntriesOfGreatDiagrams compares with the entries of the texts, and with what generators make
// of one word.
func TestSpinEntriesOfGreatDiagrams(t *testing.T) {
	for _, pair := range someSpins() {
		p, q := pair[0], pair[1]
		s := sampler(p*100 + q)
		for n := int64(5); n <= 8; n++ {
			for k := range int64(30) {
				d := modelLists[n][s.below(catalans[n])]
				if k < 2 {
					d = []impl.Diagram{modelUnit(n), modelLists[n][catalans[n]-1]}[k]
				}
				_, v := s.spinPair(d)
				column := modelMade(p, q, d, modelColumn(n, v))
				for u := range int64(1) << n {
					checkSpinEntry(t, p, q, d, u, v, column[u])
				}
				for range 20 {
					u, v := s.spinPair(d)
					want := modelSpinEntry(p, q, d, u, v)
					if want == 0 {
						t.Fatalf("the entry of %s at %d and %d is 0", modelText(d), u, v)
					}
					checkSpinEntry(t, p, q, d, u, v, want)
					u, v = s.below(1<<n), s.below(1<<n)
					checkSpinEntry(t, p, q, d, u, v, modelSpinEntry(p, q, d, u, v))
				}
			}
		}
	}
}

func TestSpinEntriesByHand(t *testing.T) {
	// For 7 and 3 the inverse r is 5.
	for _, row := range []struct {
		p, q int64
		text string
		u, v string
		want int64
	}{
		{7, 3, "()", "0", "0", 1}, {7, 3, "()", "1", "1", 1}, {7, 3, "()", "0", "1", 0}, {7, 3, "()", "1", "0", 0}, {2, 1, "()", "1", "1", 1},
		{7, 3, "(())", "01", "01", 1}, {7, 3, "(())", "00", "00", 1}, {7, 3, "(())", "01", "10", 0},
		{7, 3, "()()", "01", "01", 2}, {7, 3, "()()", "01", "10", 1}, {7, 3, "()()", "10", "01", 1}, {7, 3, "()()", "10", "10", 4},
		{7, 3, "()()", "00", "01", 0}, {7, 3, "()()", "01", "11", 0}, {7, 3, "()()", "00", "00", 0}, {7, 3, "()()", "11", "11", 0}, {7, 3, "()()", "10", "00", 0},
		{2, 1, "()()", "01", "01", 1}, {2, 1, "()()", "10", "10", 1}, {97, 96, "()()", "01", "01", 1}, {97, 96, "()()", "10", "10", 1}, {97, 1, "()()", "10", "10", 96},
		// The upper points 0 and 1, the lower points 1 and 2, and the upper point 2 with the lower point 0.
		{7, 3, "()(())", "011", "101", 2}, {7, 3, "()(())", "011", "110", 1}, {7, 3, "()(())", "100", "010", 4}, {7, 3, "()(())", "100", "001", 1}, {7, 3, "()(())", "010", "101", 0}, {7, 3, "()(())", "011", "100", 0},
		// The upper points 1 and 2, the lower points 0 and 1, and the upper point 0 with the lower point 2.
		{7, 3, "(())()", "001", "010", 2}, {7, 3, "(())()", "110", "101", 4}, {7, 3, "(())()", "101", "011", 2}, {7, 3, "(())()", "001", "011", 0},
		// Lines around lines: 0 and 3, 1 and 2 on both sides.
		{7, 3, "(())(())", "0011", "0011", 4}, {7, 3, "(())(())", "1100", "1100", 2}, {7, 3, "(())(())", "0101", "0101", 1}, {7, 3, "(())(())", "1010", "1100", 4}, {7, 3, "(())(())", "0011", "1100", 1}, {7, 3, "(())(())", "1001", "0011", 0}, {7, 3, "(())(())", "0011", "1001", 0},
		{7, 3, "((((((()))))))", "1011001", "1011001", 1}, {7, 3, "((((((()))))))", "1011001", "1011000", 0}, {7, 3, "(((((((())))))))", "10000001", "10000001", 1}, {7, 3, "(((((((())))))))", "11111111", "11111111", 1}, {7, 3, "(((((((())))))))", "00000000", "00000000", 1},
		{7, 3, "()()()()()()()()", "01010101", "10101010", 1}, {7, 3, "()()()()()()()()", "10101010", "10101010", 4}, {7, 3, "()()()()()()()()", "01010101", "01010101", 2}, {7, 3, "()()()()()()()()", "01010101", "01010100", 0},
		{7, 3, "(((())))(((())))", "11110000", "00001111", 1}, {7, 3, "(((())))(((())))", "10101010", "00001111", 4}, {97, 5, "(((())))(((())))", "11110000", "11110000", 43}, {97, 5, "(((())))(((())))", "11110000", "00001111", 1},
	} {
		checkSpinEntry(t, row.p, row.q, parsed(t, row.text), modelNumber(row.u), modelNumber(row.v), row.want)
	}
}

// TestSpinTables goes through all diagrams of at most four points a side: tables, their ranks, which are
// 2 to the power of the lines that go through, and their blocks.
func TestSpinTables(t *testing.T) {
	forBases(func(p int64, q int64) {
		for n := int64(1); n <= 4; n++ {
			for _, d := range modelLists[n] {
				want := modelSpinTable(p, q, d)
				if got := spun(t, p, q, d); !sameTable(got, want) {
					t.Fatalf("SpinTable(%d, %d, %v) = %v, not %v", p, q, d, got, want)
				}
				rank, code := impl.SpinRank(p, q, d)
				if rank != 1<<modelThrough(d) || rank != int64(modelRank(p, want)) || code != impl.ErrNone {
					t.Fatalf("SpinRank(%d, %d, %v) = %d, %d", p, q, d, rank, code)
				}
				checkBlocks(t, p, q, d, want)
			}
		}
	})
}

// checkBlocks compares all blocks with the table, of which no other entries are other than 0.
func checkBlocks(t *testing.T, p int64, q int64, d impl.Diagram, table [][]int64) {
	t.Helper()
	blocks := map[int][][]int64{}
	for u, row := range table {
		ones := strings.Count(modelLetters(d.Size, int64(u)), "1")
		kept := []int64{}
		for v, entry := range row {
			if strings.Count(modelLetters(d.Size, int64(v)), "1") == ones {
				kept = append(kept, entry)
			} else if entry != 0 {
				t.Fatalf("the entry of %v at %d and %d is %d", d, u, v, entry)
			}
		}
		blocks[ones] = append(blocks[ones], kept)
	}
	for k := range d.Size + 1 {
		if got, code := impl.SpinBlock(p, q, d, k); !sameTable(got, blocks[int(k)]) || code != impl.ErrNone {
			t.Fatalf("SpinBlock(%d, %d, %v, %d) = %v, %d, not %v", p, q, d, k, got, code, blocks[int(k)])
		}
	}
}

func TestSpinTablesByHand(t *testing.T) {
	for _, row := range []struct {
		p, q   int64
		text   string
		table  [][]int64
		rank   int64
		blocks [][][]int64
	}{
		{7, 3, "()", [][]int64{{1, 0}, {0, 1}}, 2, [][][]int64{{{1}}, {{1}}}},
		{2, 1, "()", [][]int64{{1, 0}, {0, 1}}, 2, [][][]int64{{{1}}, {{1}}}},
		{7, 2, "()()", [][]int64{{0, 0, 0, 0}, {0, 3, 1, 0}, {0, 1, 5, 0}, {0, 0, 0, 0}}, 1, [][][]int64{{{0}}, {{3, 1}, {1, 5}}, {{0}}}},
		{2, 1, "()()", [][]int64{{0, 0, 0, 0}, {0, 1, 1, 0}, {0, 1, 1, 0}, {0, 0, 0, 0}}, 1, [][][]int64{{{0}}, {{1, 1}, {1, 1}}, {{0}}}},
		{5, 2, "()()", [][]int64{{0, 0, 0, 0}, {0, 2, 1, 0}, {0, 1, 3, 0}, {0, 0, 0, 0}}, 1, [][][]int64{{{0}}, {{2, 1}, {1, 3}}, {{0}}}},
		{97, 96, "()()", [][]int64{{0, 0, 0, 0}, {0, 1, 1, 0}, {0, 1, 1, 0}, {0, 0, 0, 0}}, 1, [][][]int64{{{0}}, {{1, 1}, {1, 1}}, {{0}}}},
		{7, 3, "(())", modelDiagonal(2, 1), 4, [][][]int64{{{1}}, {{1, 0}, {0, 1}}, {{1}}}},
		{7, 3, "((()))", modelDiagonal(3, 1), 8, [][][]int64{{{1}}, {{1, 0, 0}, {0, 1, 0}, {0, 0, 1}}, {{1, 0, 0}, {0, 1, 0}, {0, 0, 1}}, {{1}}}},
		{7, 3, "(()())", [][]int64{
			{0, 0, 0, 0, 0, 0, 0, 0}, {0, 2, 1, 0, 0, 0, 0, 0}, {0, 1, 4, 0, 0, 0, 0, 0}, {0, 0, 0, 0, 0, 0, 0, 0},
			{0, 0, 0, 0, 0, 0, 0, 0}, {0, 0, 0, 0, 0, 2, 1, 0}, {0, 0, 0, 0, 0, 1, 4, 0}, {0, 0, 0, 0, 0, 0, 0, 0},
		}, 2, [][][]int64{{{0}}, {{2, 1, 0}, {1, 4, 0}, {0, 0, 0}}, {{0, 0, 0}, {0, 2, 1}, {0, 1, 4}}, {{0}}}},
	} {
		d := parsed(t, row.text)
		if got := spun(t, row.p, row.q, d); !sameTable(got, row.table) {
			t.Errorf("SpinTable(%d, %d, %s) = %v", row.p, row.q, row.text, got)
		}
		if rank, code := impl.SpinRank(row.p, row.q, d); rank != row.rank || code != impl.ErrNone {
			t.Errorf("SpinRank(%d, %d, %s) = %d, %d", row.p, row.q, row.text, rank, code)
		}
		for k, block := range row.blocks {
			if got, code := impl.SpinBlock(row.p, row.q, d, int64(k)); !sameTable(got, block) || code != impl.ErrNone {
				t.Errorf("SpinBlock(%d, %d, %s, %d) = %v, %d", row.p, row.q, row.text, k, got, code)
			}
		}
	}
}

// TestSpinTablesByWords compares tables with the products of tables of generators.
func TestSpinTablesByWords(t *testing.T) {
	for _, pair := range someSpins() {
		p, q := pair[0], pair[1]
		for n := int64(2); n <= 4; n++ {
			for _, d := range modelLists[n] {
				product := modelDiagonal(n, 1)
				for _, i := range modelWords[n][d].word {
					product = modelTimes(p, product, spun(t, p, q, modelGenerator(n, i)))
				}
				if got := spun(t, p, q, d); !sameTable(got, product) {
					t.Fatalf("SpinTable(%d, %d, %v) = %v, not %v", p, q, d, got, product)
				}
			}
		}
	}
}

// looping returns the product of two diagrams, and the loop value to the power of the loops.
func looping(t *testing.T, p int64, q int64, d impl.Diagram, e impl.Diagram) (impl.Diagram, int64) {
	t.Helper()
	product, loops, first := impl.MultiplyDiagrams(d, e)
	c, second := impl.SpinLoop(p, q)
	if first != impl.ErrNone || second != impl.ErrNone {
		t.Fatalf("MultiplyDiagrams(%v, %v), SpinLoop(%d, %d): codes %d, %d", d, e, p, q, first, second)
	}
	return product, modelPowerOf(p, c, loops)
}

// TestTablesOfProductsOnSpins checks promise 10 for all pairs of diagrams that have tables.
func TestTablesOfProductsOnSpins(t *testing.T) {
	for _, pair := range someSpins() {
		p, q := pair[0], pair[1]
		for n := int64(1); n <= 4; n++ {
			tables := map[impl.Diagram][][]int64{}
			for _, d := range modelLists[n] {
				tables[d] = spun(t, p, q, d)
			}
			for d, a := range tables {
				for e, b := range tables {
					product, factor := looping(t, p, q, d, e)
					if want := modelScaled(p, factor, tables[product]); !sameTable(modelTimes(p, a, b), want) {
						t.Fatalf("the tables of %v and %v for %d and %d have the product %v, not %v", d, e, p, q, modelTimes(p, a, b), want)
					}
				}
			}
		}
	}
}

// checkMadeTwice checks promise 10 for vectors: what d makes of what e makes of a vector is what their
// product makes of it, with loops.
func checkMadeTwice(t *testing.T, p int64, q int64, d impl.Diagram, e impl.Diagram, x []int64) {
	t.Helper()
	product, factor := looping(t, p, q, d, e)
	want := modelScaled(p, factor, [][]int64{made(t, p, q, product, x)})[0]
	if got := made(t, p, q, d, made(t, p, q, e, x)); !slices.Equal(got, want) {
		t.Fatalf("for %d and %d, %v and %v make of %v first %v, not %v", p, q, d, e, x, got, want)
	}
}

// TestProductsOnVectors checks promise 10 for all sizes of vectors.
func TestProductsOnVectors(t *testing.T) {
	for _, pair := range someSpins() {
		p, q := pair[0], pair[1]
		s := sampler(p*1000 + q)
		for n := int64(1); n <= 4; n++ {
			for _, d := range modelLists[n] {
				for _, e := range modelLists[n] {
					checkMadeTwice(t, p, q, d, e, s.vector(p, n))
				}
			}
		}
		for n := int64(5); n <= 6; n++ {
			for range 100 {
				d, e := modelLists[n][s.below(catalans[n])], modelLists[n][s.below(catalans[n])]
				checkMadeTwice(t, p, q, d, e, s.vector(p, n))
			}
		}
	}
}

// TestEntriesOfProducts checks promise 10 for the sizes of which there are only single entries.
func TestEntriesOfProducts(t *testing.T) {
	for _, pair := range someSpins() {
		p, q := pair[0], pair[1]
		s := sampler(p*1000 + q)
		for n := int64(7); n <= 8; n++ {
			for range 60 {
				d, e := modelLists[n][s.below(catalans[n])], modelLists[n][s.below(catalans[n])]
				product, factor := looping(t, p, q, d, e)
				u, v := s.spinPair(product)
				total := int64(0)
				for w := range int64(1) << n {
					a, _ := impl.SpinEntry(p, q, d, u, w)
					b, _ := impl.SpinEntry(p, q, e, w, v)
					total += a * b
				}
				entry, code := impl.SpinEntry(p, q, product, u, v)
				if total%p != factor*entry%p || code != impl.ErrNone {
					t.Fatalf("entries of %v and %v for %d and %d at %d and %d have the sum %d, with %d for the product", d, e, p, q, u, v, total, entry)
				}
			}
		}
	}
}

// TestVectors goes through all diagrams of at most six points a side.
func TestVectors(t *testing.T) {
	for _, pair := range someSpins() {
		p, q := pair[0], pair[1]
		s := sampler(p*100 + q)
		for n := int64(1); n <= 6; n++ {
			for _, d := range modelLists[n] {
				full := slices.Repeat([]int64{p - 1}, 1<<n)
				for _, x := range [][]int64{s.vector(p, n), make([]int64, 1<<n), full, modelColumn(n, s.spinWord(d, n)), modelColumn(n, s.below(1<<n))} {
					if got, want := made(t, p, q, d, x), modelMade(p, q, d, x); !slices.Equal(got, want) {
						t.Fatalf("ApplyToSpins(%d, %d, %v, %v) = %v, not %v", p, q, d, x, got, want)
					}
				}
			}
		}
	}
}

// TestVectorsOfTables compares what diagrams make of vectors with their tables.
func TestVectorsOfTables(t *testing.T) {
	forBases(func(p int64, q int64) {
		s := sampler(p*100 + q)
		for n := int64(1); n <= 4; n++ {
			for _, d := range modelLists[n] {
				x := s.vector(p, n)
				want := []int64{}
				for _, row := range spun(t, p, q, d) {
					total := int64(0)
					for v, entry := range row {
						total += entry * x[v]
					}
					want = append(want, total%p)
				}
				if got := made(t, p, q, d, x); !slices.Equal(got, want) {
					t.Fatalf("ApplyToSpins(%d, %d, %v, %v) = %v, not %v", p, q, d, x, got, want)
				}
			}
		}
	})
}

func TestVectorsByHand(t *testing.T) {
	for _, row := range []struct {
		p, q int64
		text string
		x, y []int64
	}{
		{7, 2, "(())", []int64{1, 2, 3, 4}, []int64{1, 2, 3, 4}},
		{7, 2, "()", []int64{6, 0}, []int64{6, 0}},
		{7, 2, "()()", []int64{1, 2, 3, 4}, []int64{0, 2, 3, 0}}, // 3 2 + 3, and 2 + 5 3
		{7, 2, "()()", []int64{0, 1, 0, 0}, []int64{0, 3, 1, 0}},
		{7, 2, "()()", []int64{5, 0, 0, 6}, []int64{0, 0, 0, 0}},
		{7, 2, "()()", []int64{0, 0, 0, 0}, []int64{0, 0, 0, 0}},
		{2, 1, "()()", []int64{1, 1, 0, 1}, []int64{0, 1, 1, 0}},
		{2, 1, "()()", []int64{0, 1, 1, 0}, []int64{0, 0, 0, 0}},
		{97, 96, "()()", []int64{96, 96, 96, 96}, []int64{0, 95, 95, 0}},
		{7, 3, "()(())", []int64{0, 0, 1, 0, 0, 1, 0, 0}, []int64{0, 0, 1, 2, 4, 1, 0, 0}},
	} {
		if got := made(t, row.p, row.q, parsed(t, row.text), row.x); !slices.Equal(got, row.y) {
			t.Errorf("ApplyToSpins(%d, %d, %s, %v) = %v, not %v", row.p, row.q, row.text, row.x, got, row.y)
		}
	}
}

// TestUnitsOnSpins checks that units keep vectors, and have tables with 1 where both words are equal.
func TestUnitsOnSpins(t *testing.T) {
	forBases(func(p int64, q int64) {
		s := sampler(p + q)
		for n := int64(1); n <= 6; n++ {
			d := modelUnit(n)
			x := s.vector(p, n)
			if got := made(t, p, q, d, x); !slices.Equal(got, x) {
				t.Errorf("for %d and %d the unit of %d makes %v of %v", p, q, n, got, x)
			}
			if n > 4 {
				continue
			}
			rank, code := impl.SpinRank(p, q, d)
			if got := spun(t, p, q, d); !sameTable(got, modelDiagonal(n, 1)) || rank != 1<<n || code != impl.ErrNone {
				t.Errorf("SpinTable(%d, %d, the unit of %d) = %v, with the rank %d, %d", p, q, n, got, rank, code)
			}
		}
	})
}

// TestWeightedTraces checks the first half of promise 14 for all diagrams of at most six points a side:
// weighted traces are those of closures.
func TestWeightedTraces(t *testing.T) {
	forBases(func(p int64, q int64) {
		c, _ := impl.SpinLoop(p, q)
		for n := int64(1); n <= 6; n++ {
			for _, d := range modelLists[n] {
				loops, first := impl.ClosureLoops(d)
				got, second := impl.WeightedTrace(p, q, d)
				if got != modelPowerOf(p, c, loops) || first != impl.ErrNone || second != impl.ErrNone {
					t.Fatalf("WeightedTrace(%d, %d, %v) = %d, %d, with %d loops", p, q, d, got, second, loops)
				}
			}
		}
	})
}

// TestTracesOnSpins compares both traces with the sums of entries, and weighted ones with traces of
// elements.
func TestTracesOnSpins(t *testing.T) {
	for _, pair := range someSpins() {
		p, q := pair[0], pair[1]
		c, r := modelSpinLoop(p, q)
		for n := int64(1); n <= 6; n++ {
			for _, d := range modelLists[n] {
				weighted, first := impl.WeightedTrace(p, q, d)
				if want := modelSpinTrace(p, q, d, p-r, p-q); weighted != want || first != impl.ErrNone {
					t.Fatalf("WeightedTrace(%d, %d, %v) = %d, %d, not %d", p, q, d, weighted, first, want)
				}
				plain, second := impl.PlainTrace(p, q, d)
				if want := modelSpinTrace(p, q, d, 1, 1); plain != want || second != impl.ErrNone {
					t.Fatalf("PlainTrace(%d, %d, %v) = %d, %d, not %d", p, q, d, plain, second, want)
				}
				x, code := impl.ElementOf(p, c, d, 1)
				if trace := traced(t, x); trace != weighted || code != impl.ErrNone {
					t.Fatalf("WeightedTrace(%d, %d, %v) = %d, but TraceOf is %d", p, q, d, weighted, trace)
				}
			}
		}
	}
}

func TestTracesOnSpinsByHand(t *testing.T) {
	for _, row := range []struct {
		p, q            int64
		text            string
		weighted, plain int64
	}{
		{7, 1, "()()", 5, 5}, {7, 1, "(())", 4, 4}, {7, 3, "()", 6, 2}, {7, 3, "(())", 1, 4}, {7, 3, "((()))", 6, 1}, {7, 3, "()()", 6, 6},
		{7, 2, "()()", 1, 1}, {7, 2, "()(())", 1, 2}, {7, 2, "(()())", 1, 2}, {97, 5, "()", 53, 2},
		// Loop values of 0 make all weighted traces 0.
		{2, 1, "()", 0, 0}, {2, 1, "()()", 0, 0}, {2, 1, "(((((())))))", 0, 0}, {5, 2, "(())()", 0, 2}, {97, 22, "(((((())))))", 0, 64}, {5, 2, "(((((())))))", 0, 4}, {97, 22, "()()()()()()", 0, 0},
		{97, 96, "(((((())))))", 64, 64}, {97, 96, "()()()()()()", 8, 8}, {97, 1, "()()()()()()", 89, 89}, {97, 96, "((()))((()))", 8, 8}, {97, 96, "(()())(()())", 8, 8},
	} {
		d := parsed(t, row.text)
		weighted, first := impl.WeightedTrace(row.p, row.q, d)
		plain, second := impl.PlainTrace(row.p, row.q, d)
		if weighted != row.weighted || plain != row.plain || first != impl.ErrNone || second != impl.ErrNone {
			t.Errorf("the traces of %s for %d and %d are %d and %d, codes %d, %d", row.text, row.p, row.q, weighted, plain, first, second)
		}
	}
}

// TestTracesOfProductsOnSpins checks that neither trace of a product depends on the order.
func TestTracesOfProductsOnSpins(t *testing.T) {
	for _, pair := range someSpins() {
		p, q := pair[0], pair[1]
		for n := int64(1); n <= 5; n++ {
			s := sampler(n)
			for range 40 {
				d, e := modelLists[n][s.below(catalans[n])], modelLists[n][s.below(catalans[n])]
				a, first := looping(t, p, q, d, e)
				b, second := looping(t, p, q, e, d)
				for _, trace := range []func(int64, int64, impl.Diagram) (int64, int64){impl.WeightedTrace, impl.PlainTrace} {
					x, _ := trace(p, q, a)
					y, _ := trace(p, q, b)
					if x*first%p != y*second%p {
						t.Errorf("traces of the products of %v and %v for %d and %d: %d, %d", d, e, p, q, x, y)
					}
				}
			}
		}
	}
}

// TestTablesOfElements checks the second half of promise 14: tables of elements are sums of the factors
// times the tables of diagrams. Ranks are those of the tables.
func TestTablesOfElements(t *testing.T) {
	forBases(func(p int64, q int64) {
		for _, x := range spinElements(p, q) {
			want := modelDiagonal(x.Size, 0)
			for _, term := range x.Terms {
				want = modelPlus(p, want, modelScaled(p, term.Factor, spun(t, p, q, term.Diagram)))
			}
			if got := spunElement(t, q, x); !sameTable(got, want) || !sameTable(got, modelTableOfElement(q, x)) {
				t.Fatalf("TableOfElement(%d, %v) = %v, not %v", q, x, got, want)
			}
			if rank, code := impl.RankOfElement(q, x); rank != int64(modelRank(p, want)) || code != impl.ErrNone {
				t.Fatalf("RankOfElement(%d, %v) = %d, %d, not %d", q, x, rank, code, modelRank(p, want))
			}
		}
	})
}

// TestTablesOfProductsOfElements checks that tables go along with sums and products of elements.
func TestTablesOfProductsOfElements(t *testing.T) {
	for _, pair := range someSpins() {
		p, q := pair[0], pair[1]
		for _, x := range spinElements(p, q) {
			for _, y := range spinElements(p, q) {
				if x.Size != y.Size {
					continue
				}
				a, b := spunElement(t, q, x), spunElement(t, q, y)
				if got := spunElement(t, q, times(t, x, y)); !sameTable(got, modelTimes(p, a, b)) {
					t.Fatalf("the table of the product of %v and %v for %d is %v", x, y, q, got)
				}
				if got := spunElement(t, q, plus(t, x, y)); !sameTable(got, modelPlus(p, a, b)) {
					t.Fatalf("the table of the sum of %v and %v for %d is %v", x, y, q, got)
				}
			}
		}
	}
}

func TestTablesOfElementsByHand(t *testing.T) {
	for _, row := range []struct {
		p, c, q, n int64
		text       string
		table      [][]int64
		rank       int64
	}{
		{7, 5, 1, 2, "2*(())", modelDiagonal(2, 2), 4},
		{7, 5, 1, 1, "0", modelDiagonal(1, 0), 0}, {7, 5, 1, 4, "0", modelDiagonal(4, 0), 0}, {2, 0, 1, 3, "0", modelDiagonal(3, 0), 0},
		{2, 0, 1, 1, "1*()", modelDiagonal(1, 1), 2}, {97, 2, 96, 4, "96*(((())))", modelDiagonal(4, 96), 16},
		{7, 6, 3, 2, "3*()()", [][]int64{{0, 0, 0, 0}, {0, 6, 3, 0}, {0, 3, 5, 0}, {0, 0, 0, 0}}, 1},
		{7, 6, 3, 2, "1*(())+2*()()", [][]int64{{1, 0, 0, 0}, {0, 5, 2, 0}, {0, 2, 2, 0}, {0, 0, 0, 1}}, 4},
		// The unit less 1 / c times the generator leaves three of four.
		{7, 6, 3, 2, "1*(())+1*()()", [][]int64{{1, 0, 0, 0}, {0, 3, 1, 0}, {0, 1, 5, 0}, {0, 0, 0, 1}}, 3},
		{2, 0, 1, 2, "1*(())+1*()()", [][]int64{{1, 0, 0, 0}, {0, 0, 1, 0}, {0, 1, 0, 0}, {0, 0, 0, 1}}, 4},
		{97, 0, 22, 2, "96*()()", [][]int64{{0, 0, 0, 0}, {0, 75, 96, 0}, {0, 96, 22, 0}, {0, 0, 0, 0}}, 1},
	} {
		x, code := impl.ParseElement(row.p, row.c, row.n, row.text)
		if code != impl.ErrNone {
			t.Fatalf("ParseElement(%q): code %d", row.text, code)
		}
		if got := spunElement(t, row.q, x); !sameTable(got, row.table) {
			t.Errorf("TableOfElement(%d, %s) for %d = %v", row.q, row.text, row.p, got)
		}
		if rank, code := impl.RankOfElement(row.q, x); rank != row.rank || code != impl.ErrNone {
			t.Errorf("RankOfElement(%d, %s) for %d = %d, %d", row.q, row.text, row.p, rank, code)
		}
	}
}

// TestTablesOfInverses checks that q and its inverse have the same loop value, so that an element has
// tables for both, and that these have the same rank.
func TestTablesOfInverses(t *testing.T) {
	for _, pair := range someSpins() {
		p, q := pair[0], pair[1]
		for _, x := range spinElements(p, q) {
			first, a := impl.RankOfElement(q, x)
			second, b := impl.RankOfElement(modelInverse(p, q), x)
			if first != second || a != impl.ErrNone || b != impl.ErrNone {
				t.Errorf("the ranks of %v for %d and its inverse are %d and %d, codes %d, %d", x, q, first, second, a, b)
			}
		}
	}
}

// TestRanksOfProjections checks that projections leave as many of the words as they have lines, and one.
func TestRanksOfProjections(t *testing.T) {
	forBases(func(p int64, q int64) {
		c, _ := modelSpinLoop(p, q)
		for n := int64(1); n <= 4; n++ {
			exists, _ := impl.ProjectionExists(p, c, n)
			if !exists {
				continue
			}
			x := projected(t, p, c, n)
			if rank, code := impl.RankOfElement(q, x); rank != n+1 || code != impl.ErrNone {
				t.Errorf("RankOfElement(%d, the projection of %d for %d) = %d, %d", q, n, p, rank, code)
			}
		}
	})
}

// TestSpinsAtOnce calls the functions that use goroutines from several goroutines, with the same
// arguments.
func TestSpinsAtOnce(t *testing.T) {
	d, e := modelLists[4][5], modelLists[6][77]
	s := sampler(10)
	x := s.vector(97, 6)
	y := firstTerms(97, 53, 4, 0, 14)
	table, vector, sum := modelSpinTable(97, 5, d), modelMade(97, 5, e, x), modelTableOfElement(5, y)
	for range 20 {
		var group sync.WaitGroup
		for range 16 {
			group.Go(func() {
				a, first := impl.SpinTable(97, 5, d)
				b, second := impl.ApplyToSpins(97, 5, e, x)
				c, third := impl.TableOfElement(5, y)
				if !sameTable(a, table) || !slices.Equal(b, vector) || !sameTable(c, sum) || first != impl.ErrNone || second != impl.ErrNone || third != impl.ErrNone {
					t.Errorf("results differ if found at once, codes %d, %d, %d", first, second, third)
				}
			})
		}
		group.Wait()
	}
}
