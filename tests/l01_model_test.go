package tests

import (
	"slices"
	"testing"

	"loop.example/g01251/impl"
)

// This file holds a second, slow reading of chapter 1, against which the package is tested.

// catalans are the numbers of diagrams of the sizes 0 to 8.
var catalans = []int64{1, 1, 2, 5, 14, 42, 132, 429, 1430}

// modelPlace returns the place of a point as the document defines it.
func modelPlace(n int, point int) int {
	if point >= n {
		return 2*n - 1 - (point - n)
	}
	return point
}

// modelIsDiagram checks each condition on diagrams by itself.
func modelIsDiagram(d impl.Diagram) bool {
	if d.Size < 1 || d.Size > 8 {
		return false
	}
	n := int(d.Size)
	for i, mate := range d.Mate {
		m := int(mate)
		if i >= 2*n {
			if m != 0 {
				return false
			}
			continue
		}
		if m >= 2*n || m == i || int(d.Mate[m]) != i {
			return false
		}
	}
	for i := range 2 * n {
		for j := range 2 * n {
			a, b := modelPlace(n, i), modelPlace(n, int(d.Mate[i]))
			x, y := modelPlace(n, j), modelPlace(n, int(d.Mate[j]))
			if a < x && x < b && b < y {
				return false
			}
		}
	}
	return true
}

// modelText returns the text of a diagram.
func modelText(d impl.Diagram) string {
	n := int(d.Size)
	letters := make([]byte, 2*n)
	for i := range 2 * n {
		place := modelPlace(n, i)
		letters[place] = ")("[b2i(modelPlace(n, int(d.Mate[i])) > place)]
	}
	return string(letters)
}

func b2i(b bool) int {
	if b {
		return 1
	}
	return 0
}

// modelPairings calls use with all structs of the size n that pair 2 n points, lines that cross
// included.
func modelPairings(n int, use func(d impl.Diagram)) {
	var done [16]bool
	d := impl.Diagram{Size: int64(n)}
	var pair func(i int)
	pair = func(i int) {
		if i == 2*n {
			use(d)
			return
		}
		if done[i] {
			pair(i + 1)
			return
		}
		for j := i + 1; j < 2*n; j++ {
			if done[j] {
				continue
			}
			done[i], done[j] = true, true
			d.Mate[i], d.Mate[j] = byte(j), byte(i)
			pair(i + 1)
			done[i], done[j] = false, false
		}
	}
	pair(0)
}

// modelGraph is a graph whose parts are looked for.
type modelGraph [][]int

func (g modelGraph) join(a int, b int) {
	g[a] = append(g[a], b)
	g[b] = append(g[b], a)
}

// parts returns the number of the part of each point.
func (g modelGraph) parts() []int {
	part := make([]int, len(g))
	for i := range part {
		part[i] = -1
	}
	var mark func(i int, k int)
	mark = func(i int, k int) {
		if part[i] >= 0 {
			return
		}
		part[i] = k
		for _, j := range g[i] {
			mark(j, k)
		}
	}
	for i := range g {
		mark(i, i)
	}
	return part
}

// modelProduct finds the product of d and e, and its loops, as parts of a graph. The upper points
// of d are 0 to n - 1, the points that meet n to 2 n - 1, and the lower points of e the last ones.
func modelProduct(d impl.Diagram, e impl.Diagram) (impl.Diagram, int64) {
	n := int(d.Size)
	g := make(modelGraph, 3*n)
	for i := range 2 * n {
		if j := int(d.Mate[i]); i < j {
			g.join(i, j)
		}
		if j := int(e.Mate[i]); i < j {
			g.join(n+i, n+j)
		}
	}
	part := g.parts()
	ends := map[int][]int{}
	for i, k := range part {
		if ends[k] == nil {
			ends[k] = []int{}
		}
		if i < n {
			ends[k] = append(ends[k], i)
		} else if i >= 2*n {
			ends[k] = append(ends[k], i-n)
		}
	}
	x, loops := impl.Diagram{Size: int64(n)}, int64(0)
	for _, list := range ends {
		if len(list) == 0 {
			loops++
			continue
		}
		x.Mate[list[0]], x.Mate[list[1]] = byte(list[1]), byte(list[0])
	}
	return x, loops
}

// modelClosure counts the loops of the closure of d.
func modelClosure(d impl.Diagram) int64 {
	n := int(d.Size)
	g := make(modelGraph, 2*n)
	for i := range 2 * n {
		g.join(i, int(d.Mate[i]))
		g.join(i, (i+n)%(2*n))
	}
	loops := int64(0)
	for i, k := range g.parts() {
		loops += int64(b2i(i == k))
	}
	return loops
}

// modelMoved moves the points of d as to says.
func modelMoved(d impl.Diagram, to func(n int, i int) int) impl.Diagram {
	n := int(d.Size)
	x := impl.Diagram{Size: d.Size}
	for i := range 2 * n {
		x.Mate[to(n, i)] = byte(to(n, int(d.Mate[i])))
	}
	return x
}

// modelList returns all diagrams of the size n, in the order of their texts. A text is a first line
// around a shorter text, with another one behind it.
func modelList(n int64) []impl.Diagram {
	texts := [][]string{{""}}
	for size := 1; size <= int(n); size++ {
		list := []string{}
		for inside := size - 1; inside >= 0; inside-- {
			for _, a := range texts[inside] {
				for _, b := range texts[size-1-inside] {
					list = append(list, "("+a+")"+b)
				}
			}
		}
		slices.Sort(list)
		texts = append(texts, list)
	}
	diagrams := []impl.Diagram{}
	for _, text := range texts[n] {
		diagrams = append(diagrams, modelDiagram(text))
	}
	return diagrams
}

// modelDiagram returns the diagram with a text, which has to be one.
func modelDiagram(text string) impl.Diagram {
	n := len(text) / 2
	d := impl.Diagram{Size: int64(n)}
	for i := range 2 * n {
		for j := range 2 * n {
			a, b := modelPlace(n, i), modelPlace(n, j)
			if a < b && modelIsLine(text[a:b+1]) {
				d.Mate[i], d.Mate[j] = byte(j), byte(i)
			}
		}
	}
	return d
}

// modelIsLine reports whether the first and the last bracket of a text belong together.
func modelIsLine(text string) bool {
	if text[0] == ')' {
		return false
	}
	depth := 0
	for i := range text {
		if text[i] == '(' {
			depth++
		} else {
			depth--
		}
		if depth == 0 {
			return i == len(text)-1
		}
	}
	return false
}

// someDiagrams returns all diagrams of small sizes, and every seventeenth one of greater sizes.
func someDiagrams() []impl.Diagram {
	list := []impl.Diagram{}
	for n := int64(1); n <= 8; n++ {
		step := 1
		if n > 5 {
			step = 17
		}
		all := modelList(n)
		for i := 0; i < len(all); i += step {
			list = append(list, all[i])
		}
		list = append(list, all[len(all)-1])
	}
	return list
}

// parsed returns the diagram with a text.
func parsed(t *testing.T, text string) impl.Diagram {
	t.Helper()
	d, code := impl.ParseDiagram(text)
	if code != impl.ErrNone {
		t.Fatalf("ParseDiagram(%q): code %d", text, code)
	}
	return d
}

// badDiagrams returns structs that are no diagrams.
func badDiagrams() []impl.Diagram {
	full := impl.Diagram{Size: 8}
	for i := range 8 {
		full.Mate[i], full.Mate[8+i] = byte(8+i), byte(i)
	}
	nine, crossed, far, own := full, full, full, full
	nine.Size = 9
	crossed.Mate[0], crossed.Mate[9], crossed.Mate[1], crossed.Mate[8] = 9, 0, 8, 1
	far.Mate[3] = 16
	own.Mate[7] = 7
	return []impl.Diagram{
		{},
		{Size: 0, Mate: [16]byte{1, 0}},
		{Size: -1, Mate: [16]byte{1, 0}},
		{Size: 1},
		{Size: 1, Mate: [16]byte{0, 1}},
		{Size: 1, Mate: [16]byte{1, 1}},
		{Size: 1, Mate: [16]byte{0, 0}},
		{Size: 1, Mate: [16]byte{1, 0, 1}},
		{Size: 1, Mate: [16]byte{1, 0, 3, 2}},
		{Size: 1, Mate: [16]byte{255, 0}},
		{Size: 1, Mate: [16]byte{2, 0}},
		{Size: 2, Mate: [16]byte{3, 2, 1, 0}},
		{Size: 2, Mate: [16]byte{2, 3, 0, 1, 0, 0, 0, 0, 0, 0, 0, 0, 0, 0, 0, 1}},
		{Size: 2, Mate: [16]byte{2, 3, 1, 0}},
		{Size: 2, Mate: [16]byte{1, 0, 3}},
		{Size: 2, Mate: [16]byte{1, 0, 3, 200}},
		{Size: 2, Mate: [16]byte{1, 0, 2, 3}},
		{Size: 3, Mate: [16]byte{3, 4, 5, 0, 1, 2, 0, 0, 1}},
		{Size: 3, Mate: [16]byte{2, 5, 0, 4, 3, 1}},
		nine, crossed, far, own,
		{Size: 9223372036854775807, Mate: full.Mate},
		{Size: -9223372036854775808, Mate: full.Mate},
		{Size: 264, Mate: full.Mate},
	}
}
