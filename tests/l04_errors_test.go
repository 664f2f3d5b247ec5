package tests

import (
	"slices"
	"testing"

	"loop.example/g01251/impl"
)

// Tests of chapter 4: errors, their order, and the memory of results.

func TestErrorsOfHalvesOfNoDiagrams(t *testing.T) {
	for _, bad := range badDiagrams() {
		if a, code := impl.UpperHalf(bad); a != "" || code != impl.ErrInvalid {
			t.Errorf("UpperHalf(%v) = %q, %d", bad, a, code)
		}
		if a, code := impl.LowerHalf(bad); a != "" || code != impl.ErrInvalid {
			t.Errorf("LowerHalf(%v) = %q, %d", bad, a, code)
		}
		for _, a := range append([]string{"|", "()", "|||", "||||||||"}, badHalves()...) {
			if b, loops, code := impl.ActOnHalf(bad, a); b != "" || loops != 0 || code != impl.ErrInvalid {
				t.Errorf("ActOnHalf(%v, %q) = %q, %d, %d", bad, a, b, loops, code)
			}
		}
	}
}

// TestErrorsOfTablesOfNoDiagrams checks that ErrInvalid comes ahead of ErrRange.
func TestErrorsOfTablesOfNoDiagrams(t *testing.T) {
	for _, bad := range badDiagrams() {
		for _, kind := range [][3]int64{{7, 3, 0}, {7, 3, 1}, {7, 3, 2}, {7, 3, -1}, {7, 7, 2}, {4, 0, 2}, {101, 0, 9}} {
			if table, code := impl.CellTable(kind[0], kind[1], bad, kind[2]); len(table) != 0 || code != impl.ErrInvalid {
				t.Errorf("CellTable(%v) of %v = %v, %d", kind, bad, table, code)
			}
			if sum, code := impl.CellCharacter(kind[0], kind[1], bad, kind[2]); sum != 0 || code != impl.ErrInvalid {
				t.Errorf("CellCharacter(%v) of %v = %d, %d", kind, bad, sum, code)
			}
		}
	}
}

// TestErrorsOfNoHalves checks that ErrInvalid comes ahead of ErrRange.
func TestErrorsOfNoHalves(t *testing.T) {
	for _, bad := range badHalves() {
		for _, good := range []string{"|", "()", "||", "()|", "()()()()", "||||||||"} {
			for _, pair := range [][2]string{{bad, good}, {good, bad}, {bad, bad}} {
				if d, code := impl.DiagramOfHalves(pair[0], pair[1]); d != none || code != impl.ErrInvalid {
					t.Errorf("DiagramOfHalves(%q) = %v, %d", pair, d, code)
				}
				if ok, loops, code := impl.PairHalves(pair[0], pair[1]); ok || loops != 0 || code != impl.ErrInvalid {
					t.Errorf("PairHalves(%q) = %v, %d, %d", pair, ok, loops, code)
				}
			}
		}
		for n := int64(1); n <= 8; n++ {
			if b, loops, code := impl.ActOnHalf(modelUnit(n), bad); b != "" || loops != 0 || code != impl.ErrInvalid {
				t.Errorf("ActOnHalf(the unit of %d, %q) = %q, %d, %d", n, bad, b, loops, code)
			}
		}
	}
}

// TestErrorsOfPairsOfHalves goes through half diagrams of different numbers of points, or of open
// points.
func TestErrorsOfPairsOfHalves(t *testing.T) {
	list := []string{}
	for n := int64(1); n <= 8; n++ {
		for _, halves := range modelHalves[n] {
			list = append(list, halves[:min(len(halves), 2)]...)
		}
	}
	for _, a := range list {
		for _, b := range list {
			d, code := impl.DiagramOfHalves(a, b)
			alike := len(a) == len(b) && len(slices.DeleteFunc([]byte(a), isBracket)) == len(slices.DeleteFunc([]byte(b), isBracket))
			if alike != (code == impl.ErrNone) || !alike && (d != none || code != impl.ErrRange) {
				t.Errorf("DiagramOfHalves(%q, %q) = %v, %d", a, b, d, code)
			}
			ok, loops, code := impl.PairHalves(a, b)
			if len(a) == len(b) && code != impl.ErrNone || len(a) != len(b) && (ok || loops != 0 || code != impl.ErrRange) {
				t.Errorf("PairHalves(%q, %q) = %v, %d, %d", a, b, ok, loops, code)
			}
		}
		for n := int64(1); n <= 8; n++ {
			b, loops, code := impl.ActOnHalf(modelUnit(n), a)
			if int(n) == len(a) && (b != a || code != impl.ErrNone) || int(n) != len(a) && (b != "" || loops != 0 || code != impl.ErrRange) {
				t.Errorf("ActOnHalf(the unit of %d, %q) = %q, %d, %d", n, a, b, loops, code)
			}
		}
	}
}

func isBracket(letter byte) bool {
	return letter == '(' || letter == ')'
}

func TestErrorsOfCells(t *testing.T) {
	for _, bad := range badCells(8) {
		if count, code := impl.CountHalves(bad[0], bad[1]); count != 0 || code != impl.ErrRange {
			t.Errorf("CountHalves(%v) = %d, %d", bad, count, code)
		}
	}
	for _, bad := range append(badCells(6), [2]int64{8, 0}, [2]int64{8, 8}) {
		n, k := bad[0], bad[1]
		if list, code := impl.HalvesOf(n, k); len(list) != 0 || code != impl.ErrRange {
			t.Errorf("HalvesOf(%v) = %v, %d", bad, list, code)
		}
		checkErrorsOfGram(t, [4]int64{7, 3, n, k})
		checkErrorsOfGram(t, [4]int64{2, 0, n, k})
		checkErrorsOfGram(t, [4]int64{4, 1, n, k})
		if n < 1 || n > 8 {
			continue
		}
		d := modelUnit(n)
		if table, code := impl.CellTable(7, 3, d, k); len(table) != 0 || code != impl.ErrRange {
			t.Errorf("CellTable(the unit of %d, %d) = %v, %d", n, k, table, code)
		}
		if sum, code := impl.CellCharacter(7, 3, d, k); sum != 0 || code != impl.ErrRange {
			t.Errorf("CellCharacter(the unit of %d, %d) = %d, %d", n, k, sum, code)
		}
	}
}

func checkErrorsOfGram(t *testing.T, kind [4]int64) {
	t.Helper()
	p, c, n, k := kind[0], kind[1], kind[2], kind[3]
	if table, code := impl.GramTable(p, c, n, k); len(table) != 0 || code != impl.ErrRange {
		t.Errorf("GramTable(%v) = %v, %d", kind, table, code)
	}
	if x, code := impl.GramDeterminant(p, c, n, k); x != 0 || code != impl.ErrRange {
		t.Errorf("GramDeterminant(%v) = %d, %d", kind, x, code)
	}
	if x, code := impl.GramRank(p, c, n, k); x != 0 || code != impl.ErrRange {
		t.Errorf("GramRank(%v) = %d, %d", kind, x, code)
	}
	if rows, code := impl.RadicalOf(p, c, n, k); len(rows) != 0 || code != impl.ErrRange {
		t.Errorf("RadicalOf(%v) = %v, %d", kind, rows, code)
	}
}

// TestErrorsOfModuli goes through numbers that are no primes in their range, 101 among them, and
// through loop values just out of theirs.
func TestErrorsOfModuli(t *testing.T) {
	for _, pair := range badModuli() {
		p, c := pair[0], pair[1]
		forCells(6, func(n int64, k int64) {
			checkErrorsOfGram(t, [4]int64{p, c, n, k})
			if table, code := impl.CellTable(p, c, modelUnit(n), k); len(table) != 0 || code != impl.ErrRange {
				t.Errorf("CellTable(%v, the unit of %d, %d) = %v, %d", pair, n, k, table, code)
			}
			if sum, code := impl.CellCharacter(p, c, modelUnit(n), k); sum != 0 || code != impl.ErrRange {
				t.Errorf("CellCharacter(%v, the unit of %d, %d) = %d, %d", pair, n, k, sum, code)
			}
		})
	}
}

// checkRowsOfTable checks that the rows of a table, which find returns anew, share no memory with
// each other, nor with those of another call: neither their numbers nor their spare capacity.
func checkRowsOfTable(t *testing.T, name string, find func() [][]int64) {
	t.Helper()
	want := find()
	for i := range want {
		table := find()
		fill(table[i])
		for k, row := range table {
			if k != i && !slices.Equal(row, want[k]) {
				t.Errorf("%s: row %d shares memory with row %d", name, k, i)
			}
		}
		if again := find(); !sameTable(again, want) {
			t.Errorf("%s: %v became %v", name, want, again)
		}
	}
}

func TestMemoryOfTables(t *testing.T) {
	for _, c := range []int64{0, 1, 3, 96} {
		forCells(6, func(n int64, k int64) {
			checkRowsOfTable(t, "GramTable", func() [][]int64 { return gram(t, 97, c, n, k) })
			checkRowsOfTable(t, "RadicalOf", func() [][]int64 {
				rows, _ := impl.RadicalOf(97, c, n, k)
				return rows
			})
			for _, d := range []impl.Diagram{modelUnit(n), modelLists[n][0], modelLists[n][catalans[n]-1]} {
				checkRowsOfTable(t, "CellTable", func() [][]int64 { return celled(t, 97, c, d, k) })
			}
		})
	}
}

func TestMemoryOfHalves(t *testing.T) {
	forCells(6, func(n int64, k int64) {
		list, _ := impl.HalvesOf(n, k)
		clear(list[:cap(list)])
		if again, code := impl.HalvesOf(n, k); !slices.Equal(again, modelHalves[n][k]) || code != impl.ErrNone {
			t.Errorf("HalvesOf(%d, %d) became %q, %d", n, k, again, code)
		}
	})
}
