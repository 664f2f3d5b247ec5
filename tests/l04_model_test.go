package tests

import (
	"math/bits"
	"slices"
	"strings"
	"testing"

	"loop.example/g01251/impl"
)

// This file holds a second, slow reading of chapter 4, against which the package is tested. It finds
// pairings and actions as parts of graphs.

// modelIsHalf takes arcs away that have no points between their ends, until only open points are
// left.
func modelIsHalf(a string) bool {
	if len(a) < 1 || len(a) > 8 {
		return false
	}
	for strings.Contains(a, "()") {
		a = strings.ReplaceAll(a, "()", "")
	}
	return strings.Trim(a, "|") == ""
}

// forTexts calls use with all texts of a length, in the order of their letters.
func forTexts(letters string, length int, use func(text string)) {
	if length == 0 {
		use("")
		return
	}
	for i := range letters {
		forTexts(letters, length-1, func(text string) { use(letters[i:i+1] + text) })
	}
}

// modelHalves has, for each number of points, all half diagrams with each number of open points, in
// order.
var modelHalves = func() [][][]string {
	lists := make([][][]string, 9)
	for n := 1; n <= 8; n++ {
		lists[n] = make([][]string, n+1)
		forTexts("()|", n, func(text string) {
			if modelIsHalf(text) {
				k := strings.Count(text, "|")
				lists[n][k] = append(lists[n][k], text)
			}
		})
		for _, list := range lists[n] {
			slices.Sort(list)
		}
	}
	return lists
}()

// allHalves returns all half diagrams of n points.
func allHalves(n int64) []string {
	return slices.Concat(modelHalves[n]...)
}

// modelArcs calls use with the ends of each arc of a half diagram.
func modelArcs(a string, use func(i int, j int)) {
	for i := range a {
		for j := i + 1; j < len(a); j++ {
			if !strings.Contains(a[i:j+1], "|") && modelIsLine(a[i:j+1]) {
				use(i, j)
			}
		}
	}
}

// modelHalf returns the half of d whose first point is given.
func modelHalf(d impl.Diagram, first int) string {
	letters := []byte(strings.Repeat("|", int(d.Size)))
	for i := range letters {
		for j := range letters {
			if i < j && int(d.Mate[first+i]) == first+j {
				letters[i], letters[j] = '(', ')'
			}
		}
	}
	return string(letters)
}

// modelJoined returns the diagram with two halves: the first open point of one is joined with the
// first one of the other, and so on.
func modelJoined(a string, b string) impl.Diagram {
	d := impl.Diagram{Size: int64(len(a))}
	join := func(i int, j int) { d.Mate[i], d.Mate[j] = byte(j), byte(i) }
	modelArcs(a, join)
	modelArcs(b, func(i int, j int) { join(len(a)+i, len(a)+j) })
	lower := []int{}
	for j := range b {
		if b[j] == '|' {
			lower = append(lower, len(a)+j)
		}
	}
	for i := range a {
		if a[i] == '|' {
			join(i, lower[0])
			lower = lower[1:]
		}
	}
	return d
}

// modelPair finds whether the pairing of a and b is other than 0, and its loops.
func modelPair(a string, b string) (bool, int64) {
	n := len(a)
	g := make(modelGraph, 2*n)
	for i := range n {
		g.join(i, n+i)
	}
	modelArcs(a, g.join)
	modelArcs(b, func(i int, j int) { g.join(n+i, n+j) })
	part := g.parts()
	good, loops := true, int64(0)
	for k := range part {
		ofA, ofB := 0, 0
		for i := range n {
			ofA += b2i(part[i] == k && a[i] == '|')
			ofB += b2i(part[n+i] == k && b[i] == '|')
		}
		good = good && ofA < 2 && ofB < 2
		loops += int64(b2i(part[k] == k && ofA+ofB == 0))
	}
	return good, loops
}

// modelAct finds what d makes of a, and the loops. The points of d come first, and those of a behind
// them.
func modelAct(d impl.Diagram, a string) (string, int64) {
	n := int(d.Size)
	g := make(modelGraph, 3*n)
	for i := range 2 * n {
		if j := int(d.Mate[i]); i < j {
			g.join(i, j)
		}
	}
	for i := range n {
		g.join(n+i, 2*n+i)
	}
	modelArcs(a, func(i int, j int) { g.join(2*n+i, 2*n+j) })
	part := g.parts()
	upper := make([][]int, 3*n)
	open := make([]int, 3*n)
	for i := range n {
		upper[part[i]] = append(upper[part[i]], i)
		open[part[2*n+i]] += b2i(a[i] == '|')
	}
	letters, loops := []byte(strings.Repeat("|", n)), int64(0)
	for k := range part {
		if part[k] == k && len(upper[k]) == 0 && open[k] == 0 {
			loops++
		}
		if len(upper[k]) == 2 {
			letters[upper[k][0]], letters[upper[k][1]] = '(', ')'
		}
	}
	if slices.Max(open) > 1 {
		return "", loops
	}
	return string(letters), loops
}

// modelPowerOf returns c to a power, modulo p.
func modelPowerOf(p int64, c int64, exponent int64) int64 {
	return modelLoops(impl.Element{Prime: p, Loop: c}, exponent)
}

// modelCells returns the cell table of d.
func modelCells(p int64, c int64, d impl.Diagram, k int64) [][]int64 {
	table := [][]int64{}
	for _, a := range modelHalves[d.Size][k] {
		half, loops := modelAct(d, a)
		row := []int64{}
		for _, b := range modelHalves[d.Size][k] {
			row = append(row, int64(b2i(b == half))*modelPowerOf(p, c, loops))
		}
		table = append(table, row)
	}
	return table
}

// modelTimes returns the product of two tables.
func modelTimes(p int64, a [][]int64, b [][]int64) [][]int64 {
	table := [][]int64{}
	for _, row := range a {
		sums := make([]int64, len(b[0]))
		for i, factor := range row {
			for j, number := range b[i] {
				sums[j] = (sums[j] + factor*number) % p
			}
		}
		table = append(table, sums)
	}
	return table
}

// modelScaled returns a number times a table.
func modelScaled(p int64, factor int64, a [][]int64) [][]int64 {
	table := [][]int64{}
	for _, row := range a {
		scaled := []int64{}
		for _, number := range row {
			scaled = append(scaled, factor*number%p)
		}
		table = append(table, scaled)
	}
	return table
}

func sameTable(a [][]int64, b [][]int64) bool {
	return slices.EqualFunc(a, b, func(x []int64, y []int64) bool { return slices.Equal(x, y) })
}

// modelDeterminant adds up products of numbers of the first rows, one of each place in a set: that
// of a set comes from those with one place less.
func modelDeterminant(p int64, table [][]int64) int64 {
	sums := make([]int64, 1<<len(table))
	sums[0] = 1
	for set := 1; set < len(sums); set++ {
		row := table[bits.OnesCount(uint(set))-1]
		for j := range table {
			if set>>j&1 == 0 {
				continue
			}
			number := row[j] * sums[set&^(1<<j)]
			if bits.OnesCount(uint(set>>(j+1)))%2 == 1 {
				number = -number
			}
			sums[set] = ((sums[set]+number)%p + p) % p
		}
	}
	return sums[len(sums)-1]
}

// modelRank counts the rows that are not sums of multiples of those before.
func modelRank(p int64, table [][]int64) int {
	rows := map[int][]int64{}
	for _, row := range table {
		row = slices.Clone(row)
		for last := len(row) - 1; last >= 0; last-- {
			if row[last] == 0 {
				continue
			}
			other := rows[last]
			if other == nil {
				rows[last] = row
				break
			}
			x, y := other[last], row[last]
			for i := range row {
				row[i] = ((row[i]*x-other[i]*y)%p + p) % p
			}
		}
	}
	return len(rows)
}

// isReducedList checks each condition on reduced lists by itself.
func isReducedList(p int64, rows [][]int64) bool {
	last := -1
	for i, row := range rows {
		first := slices.IndexFunc(row, func(number int64) bool { return number != 0 })
		if first <= last || row[first] != 1 {
			return false
		}
		for k, other := range rows {
			if k != i && other[first] != 0 {
				return false
			}
		}
		for _, number := range row {
			if number < 0 || number >= p {
				return false
			}
		}
		last = first
	}
	return true
}

// forCells calls use with all numbers of points of at most last, and of open points.
func forCells(last int64, use func(n int64, k int64)) {
	for n := int64(1); n <= last; n++ {
		for k := n % 2; k <= n; k += 2 {
			use(n, k)
		}
	}
}

// forModuli calls use with all primes and loop values.
func forModuli(use func(p int64, c int64)) {
	for _, p := range primes {
		for c := range p {
			use(p, c)
		}
	}
}

// badHalves returns texts that are no half diagrams.
func badHalves() []string {
	return []string{
		"", "(", ")", "((", "))", ")(", "(|", "|(", "|)", ")|", "(|)", "(()", "())", "()(", ")()", "(()|", "|())", "((|))", "(()|)", "(|())", "()(|)", "|(|)|", "((()|))", "(((||)))",
		"x", "()x", "x()", "(x)", "()||x", "[]", "{}", "<>", "l", "I", "!", "/", "\\", "¦", "｜", "（）", "() ", " ()", "|\n", "\n", " ", "\x00", "|\x00", "\xff", "|\xff|", "*", "'", "{", "}", "~",
		"|||||||||", "()()()()|", "((((()))))", "()()()()()", "|||||||||||||||||", strings.Repeat("|", 256), strings.Repeat("()", 128), strings.Repeat("|", 264), strings.Repeat("(", 4000), strings.Repeat("()", 4000),
		"(((((((", "))))))))", "()()()((", "((((((()", "|||||||(", ")|||||||", "()()()(|", "(()()()|", "(||||||)",
	}
}

// badCells returns numbers of points and of open points that no tables have.
func badCells(last int64) [][2]int64 {
	list := [][2]int64{{0, 0}, {last + 1, last + 1}, {last + 1, (last + 1) % 2}, {last + 2, 0}, {last + 2, 2}, {0, 2}, {0, -2}, {1, 3}}
	for n := int64(1); n <= last; n++ {
		for _, k := range []int64{n + 1, n + 2, n + 3, n + 4, n - 1, n - 3, -1, -2, -3, -n, 256 + n, 1<<32 + n} {
			if k < 0 || k > n || (n-k)%2 != 0 {
				list = append(list, [2]int64{n, k})
			}
		}
		for _, k := range outside {
			list = append(list, [2]int64{n, k})
		}
	}
	for _, n := range outside {
		list = append(list, [2]int64{n, 0}, [2]int64{n, 1}, [2]int64{n, 2}, [2]int64{n, n})
	}
	return list
}

// gram returns a Gram table.
func gram(t *testing.T, p int64, c int64, n int64, k int64) [][]int64 {
	t.Helper()
	table, code := impl.GramTable(p, c, n, k)
	if code != impl.ErrNone {
		t.Fatalf("GramTable(%d, %d, %d, %d): code %d", p, c, n, k, code)
	}
	return table
}

// celled returns a cell table.
func celled(t *testing.T, p int64, c int64, d impl.Diagram, k int64) [][]int64 {
	t.Helper()
	table, code := impl.CellTable(p, c, d, k)
	if code != impl.ErrNone {
		t.Fatalf("CellTable(%d, %d, %v, %d): code %d", p, c, d, k, code)
	}
	return table
}
