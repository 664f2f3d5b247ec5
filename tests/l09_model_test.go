package tests

import (
	"slices"
	"strings"
	"testing"

	"loop.example/g01251/impl"
)

// This file holds a second, slow reading of chapter 9, against which the package is tested. Blobs are on
// parts of graphs, flips are texts that are read backwards, and words are looked for from their ends.

// modelEndsOfLine returns the places of both ends of the line of a point, the lesser one first.
func modelEndsOfLine(d impl.Diagram, i int) (int, int) {
	n := int(d.Size)
	a, b := modelPlace(n, i), modelPlace(n, int(d.Mate[i]))
	return min(a, b), max(a, b)
}

// modelIsOpen reads the definition of lines that are open to the left as it stands.
func modelIsOpen(d impl.Diagram, i int) bool {
	a, b := modelEndsOfLine(d, i)
	for j := range 2 * int(d.Size) {
		if x, y := modelEndsOfLine(d, j); x < a && b < y {
			return false
		}
	}
	return true
}

// modelOpenLines returns the points of the lesser places of the lines that are open to the left.
func modelOpenLines(d impl.Diagram) []int64 {
	n := int(d.Size)
	points := []int64{}
	for place := range 2 * n {
		for i := range 2 * n {
			if first, _ := modelEndsOfLine(d, i); modelPlace(n, i) == place && first == place && modelIsOpen(d, i) {
				points = append(points, int64(i))
			}
		}
	}
	return points
}

// modelIsBlobbed checks each condition on blobbed diagrams by itself.
func modelIsBlobbed(d impl.Blobbed) bool {
	if !modelIsDiagram(d.Diagram) {
		return false
	}
	for i, blob := range d.Blobs {
		if i >= 2*int(d.Diagram.Size) {
			if blob {
				return false
			}
			continue
		}
		if blob != d.Blobs[d.Diagram.Mate[i]] || blob && !modelIsOpen(d.Diagram, i) {
			return false
		}
	}
	return true
}

// modelBlobText returns the text of a blobbed diagram.
func modelBlobText(d impl.Blobbed) string {
	n := int(d.Diagram.Size)
	letters := []byte(modelText(d.Diagram))
	for i, blob := range d.Blobs {
		if blob {
			place := modelPlace(n, i)
			letters[place] = map[byte]byte{'(': '[', ')': ']'}[letters[place]]
		}
	}
	return string(letters)
}

// bareText returns a text without blobs.
func bareText(text string) string {
	return strings.NewReplacer("[", "(", "]", ")").Replace(text)
}

// modelBlobbed returns the blobbed diagram with a text, which has to be one.
func modelBlobbed(text string) impl.Blobbed {
	d := impl.Blobbed{Diagram: modelDiagram(bareText(text))}
	for i := range text {
		letter := text[modelPlace(len(text)/2, i)]
		d.Blobs[i] = letter == '[' || letter == ']'
	}
	return d
}

// modelIsBlobText takes lines without blobs away that have nothing between their ends, until there are
// none. Lines with blobs are left, one behind the other.
func modelIsBlobText(text string) bool {
	if len(text) < 2 || len(text) > 16 {
		return false
	}
	for strings.Contains(text, "()") {
		text = strings.ReplaceAll(text, "()", "")
	}
	return strings.Repeat("[]", len(text)/2) == text
}

// modelBlobs has, for each size, all blobbed diagrams, in order.
var modelBlobs = func() [][]impl.Blobbed {
	lists := make([][]impl.Blobbed, 9)
	for n := 1; n <= 8; n++ {
		for _, d := range modelLists[n] {
			texts := []string{}
			points := modelOpenLines(d)
			for mask := range 1 << len(points) {
				x := impl.Blobbed{Diagram: d}
				for k, i := range points {
					blob := mask>>k&1 == 1
					x.Blobs[i], x.Blobs[d.Mate[i]] = blob, blob
				}
				texts = append(texts, modelBlobText(x))
			}
			slices.Sort(texts)
			for _, text := range texts {
				lists[n] = append(lists[n], modelBlobbed(text))
			}
		}
	}
	return lists
}()

// modelBlobProduct finds the product of d and e, and its loops, as parts of a graph. Its points are
// those of modelProduct.
func modelBlobProduct(d impl.Blobbed, e impl.Blobbed) (impl.Blobbed, []int64) {
	n := int(d.Diagram.Size)
	g := make(modelGraph, 3*n)
	for i := range 2 * n {
		g.join(i, int(d.Diagram.Mate[i]))
		g.join(n+i, n+int(e.Diagram.Mate[i]))
	}
	part := g.parts()
	blobs, ends := map[int]bool{}, map[int]bool{}
	for i := range 2 * n {
		blobs[part[i]] = blobs[part[i]] || d.Blobs[i]
		blobs[part[n+i]] = blobs[part[n+i]] || e.Blobs[i]
	}
	bare, _ := modelProduct(d.Diagram, e.Diagram)
	product := impl.Blobbed{Diagram: bare}
	for i := range 2 * n {
		k := part[i+n*b2i(i >= n)]
		product.Blobs[i] = blobs[k]
		ends[k] = true
	}
	loops := []int64{0, 0}
	for i, k := range part {
		if i == k && !ends[k] {
			loops[b2i(blobs[k])]++
		}
	}
	return product, loops
}

// modelBlobClosure counts the loops of the closure of d.
func modelBlobClosure(d impl.Blobbed) []int64 {
	n := int(d.Diagram.Size)
	g := make(modelGraph, 2*n)
	for i := range g {
		g.join(i, int(d.Diagram.Mate[i]))
		g.join(i, (i+n)%(2*n))
	}
	part := g.parts()
	blobs := map[int]bool{}
	for i, k := range part {
		blobs[k] = blobs[k] || d.Blobs[i]
	}
	loops := []int64{0, 0}
	for _, blob := range blobs {
		loops[b2i(blob)]++
	}
	return loops
}

// modelBlobFlip reads a text from its end: places are turned round.
func modelBlobFlip(d impl.Blobbed) impl.Blobbed {
	letters := []byte(strings.NewReplacer("(", ")", ")", "(", "[", "]", "]", "[").Replace(modelBlobText(d)))
	slices.Reverse(letters)
	return modelBlobbed(string(letters))
}

// modelLetter returns what a number of a word stands for.
func modelLetter(n int64, number int64) impl.Blobbed {
	if number >= 0 {
		return impl.Blobbed{Diagram: modelGenerator(n, number)}
	}
	d := impl.Blobbed{Diagram: modelUnit(n)}
	d.Blobs[0], d.Blobs[n] = true, true
	return d
}

// modelBlobValue returns the value of a word and its loops, from the last number to the first.
func modelBlobValue(n int64, word []int64) (impl.Blobbed, []int64) {
	d, total := impl.Blobbed{Diagram: modelUnit(n)}, []int64{0, 0}
	for k := len(word) - 1; k >= 0; k-- {
		product, loops := modelBlobProduct(modelLetter(n, word[k]), d)
		d = product
		total[0] += loops[0]
		total[1] += loops[1]
	}
	return d, total
}

// modelBlobWords has, for each size, the first of the shortest words without loops of all blobbed
// diagrams. Words are made longer at their beginnings, so that all shortest ones have to be compared.
var modelBlobWords = func() []map[impl.Blobbed][]int64 {
	lists := make([]map[impl.Blobbed][]int64, 5)
	for n := int64(1); n <= 4; n++ {
		level := map[impl.Blobbed][]int64{{Diagram: modelUnit(n)}: {}}
		all := map[impl.Blobbed][]int64{}
		for len(level) > 0 {
			next := map[impl.Blobbed][]int64{}
			for d, word := range level {
				all[d] = word
			}
			for d, word := range level {
				for number := int64(-1); number < n-1; number++ {
					e, loops := modelBlobProduct(modelLetter(n, number), d)
					if _, shorter := all[e]; shorter || loops[0]+loops[1] > 0 {
						continue
					}
					longer := append([]int64{number}, word...)
					if best, known := next[e]; !known || slices.Compare(longer, best) < 0 {
						next[e] = longer
					}
				}
			}
			level = next
		}
		lists[n] = all
	}
	return lists
}()

// blobWordsOfSize returns words for the size n: the empty one, those of one number, some of all lengths,
// and some of 60 numbers.
func blobWordsOfSize(n int64) [][]int64 {
	s := sampler(n)
	words := [][]int64{nil, {}}
	for number := int64(-1); number < n-1; number++ {
		words = append(words, []int64{number}, []int64{number, number}, repeated(number, 60))
	}
	for length := int64(2); length <= 60; length++ {
		words = append(words, s.blobWord(n, length))
	}
	rising := []int64{}
	for k := range int64(60) {
		rising = append(rising, k%n-1)
	}
	falling := slices.Clone(rising)
	slices.Reverse(falling)
	return append(words, rising, falling, s.blobWord(n, 60), s.blobWord(n, 60))
}

// blobWord picks a word of a length for the size n.
func (s *sampler) blobWord(n int64, length int64) []int64 {
	word := make([]int64, length)
	for k := range word {
		word[k] = s.below(n) - 1
	}
	return word
}

// blobbed picks a blobbed diagram of the size n.
func (s *sampler) blobbed(n int64) impl.Blobbed {
	return modelBlobs[n][s.below(int64(len(modelBlobs[n])))]
}

// forBlobs calls use with all blobbed diagrams of the sizes up to a last one.
func forBlobs(last int64, use func(d impl.Blobbed)) {
	for n := int64(1); n <= last; n++ {
		for _, d := range modelBlobs[n] {
			use(d)
		}
	}
}

// forPairsOfBlobs calls use with all pairs of blobbed diagrams of equal sizes up to a last one, and with
// so many pairs of each greater size.
func forPairsOfBlobs(last int64, more int, use func(d impl.Blobbed, e impl.Blobbed)) {
	forBlobs(last, func(d impl.Blobbed) {
		for _, e := range modelBlobs[d.Diagram.Size] {
			use(d, e)
		}
	})
	for n := last + 1; n <= 8; n++ {
		s := sampler(n)
		for range more {
			use(s.blobbed(n), s.blobbed(n))
		}
	}
}

// badBlobbed returns structs that are no blobbed diagrams.
func badBlobbed() []impl.Blobbed {
	list := []impl.Blobbed{}
	for _, d := range badDiagrams() {
		list = append(list, impl.Blobbed{Diagram: d}, impl.Blobbed{Diagram: d, Blobs: [16]bool{true, true}}, impl.Blobbed{Diagram: d, Blobs: modelLetter(8, -1).Blobs})
	}
	for _, x := range []struct {
		text   string
		points []int
	}{
		{"()", []int{0}},            // at one point of a line alone
		{"()", []int{1}},            //
		{"()", []int{2}},            // behind the last point
		{"()", []int{15}},           //
		{"()", []int{0, 1, 2}},      // behind the last point too
		{"()", []int{2, 3}},         //
		{"(())", []int{1, 3}},       // on a line that is not open to the left
		{"(())", []int{0, 1, 2, 3}}, // on such a line too
		{"(())", []int{0, 1}},       // at one point of each line
		{"(())", []int{2}},
		{"(())", []int{0, 2, 3}},
		{"()()", []int{0, 2}},
		{"()()", []int{0, 1, 3}},
		{"()()", []int{2}},
		{"()()", []int{4, 5}},
		{"()()", []int{0, 1, 2, 3, 15}},
		{"((()))", []int{2, 5}},
		{"(()())", []int{1, 2}},
		{"(()())", []int{4, 5}},
		{"(())()", []int{1, 2}},
		{"()(())", []int{3, 4}},
		{"()(())", []int{2, 4}},
		{"()(())", []int{2, 5, 6}},
		{"(((())))", []int{3, 7}},
		{"((((()))))", []int{1, 6}},
		{"((((()))))", []int{0}},
		{"((((()))))", []int{0, 5, 10}},
		{"(((((((())))))))", []int{7, 15}},
		{"(((((((())))))))", []int{0, 7, 8, 15}},
		{"(((((((())))))))", []int{8}},
		{"(((((((())))))))", []int{0, 1, 2, 3, 4, 5, 6, 7, 8, 9, 10, 11, 12, 13, 14, 15}},
		{"()()()()()()()()", []int{15}},
		{"()()()()()()()()", []int{0, 1, 2, 3, 4, 5, 6, 7, 8, 9, 10, 11, 12, 13, 14}},
	} {
		d := impl.Blobbed{Diagram: modelDiagram(x.text)}
		for _, i := range x.points {
			d.Blobs[i] = true
		}
		list = append(list, d)
	}
	return list
}

// badBlobWord is a size with a list that is no word for it.
type badBlobWord struct {
	n    int64
	word []int64
}

// badBlobWords returns pairs of a size and a list that is no word for it.
func badBlobWords() []badBlobWord {
	list := []badBlobWord{}
	for _, n := range append([]int64{0, 9, 10, 16, 257, 1<<32 + 1, 1<<62 + 1}, outside...) {
		for _, word := range [][]int64{nil, {}, {0}, {-1}, {1, 0}, {-2}, {7}, repeated(-1, 60), repeated(-1, 61)} {
			list = append(list, badBlobWord{n, word})
		}
	}
	for n := int64(1); n <= 8; n++ {
		for _, number := range append([]int64{-1, n - 2}, outside...) {
			list = append(list, badBlobWord{n, repeated(number, 61)}, badBlobWord{n, repeated(number, 62)}, badBlobWord{n, repeated(number, 1000)})
		}
		for _, number := range append([]int64{n - 1, n, n + 1, 2 * n, 255, 256, 1<<32 - 1, -1 << 32}, outside...) {
			if number == -1 {
				continue
			}
			list = append(list, badBlobWord{n, []int64{number}}, badBlobWord{n, []int64{-1, number}}, badBlobWord{n, []int64{number, -1}}, badBlobWord{n, append(repeated(-1, 59), number)}, badBlobWord{n, append([]int64{number}, repeated(n-2, 59)...)})
		}
	}
	return list
}

// badBlobTexts returns texts of no blobbed diagrams.
func badBlobTexts() []string {
	return []string{
		"", "(", ")", "[", "]", "[)", "(]", ")(", "][", ")[", "](", "((", "[[", "))", "]]",
		"[()", "()]", "[(]", "[)]", "(()]", "[())", "()[", "()]()", "[]]", "[[]", "[](", "[])",
		"([])", "[[]]", "([)]", "[(])", "[][", "(][)", "[)(]", "[))]", "[((]", "](()", ")[](", "][][", ")()(", "]()[", "][()", "()][", "[]][",
		"([]())", "(()[])", "[[]()]", "[()[]]", "[([])]", "(([]))", "()([])", "([])[]", "[](())[()", "[()](]", "[()[)]", "[(()])", "[(])()", "([()])",
		"[()]x", "x[()]", "[x()]", "[(x)]", "[()x]", "[()] ", " [()]", "[ ]", "[()]\n", "\n", "[()]\x00", "\x00\x00", "[\xff]", "{}", "[{}]", "<>", "||", "[|]", "[||]", "[|", "00", "［］", "（）", "[]（）",
		"()()()()()()()()()", "[][][][][][][][][]", "[((((((((()))))))))]", "((((((((()))))))))", "[((((((()))))))", "((((((()))))))]", "[()()()()()()()()]", "[()()()()()()()]()", "[]()()()()()()()[]",
		strings.Repeat("[]", 9), strings.Repeat("[]", 500), strings.Repeat("[", 16), strings.Repeat("]", 16), strings.Repeat("[", 8) + strings.Repeat("]", 8), strings.Repeat("[", 5000), strings.Repeat("]", 5000), strings.Repeat("x", 5000), strings.Repeat("()", 128), strings.Repeat("[]", 136),
	}
}

// blobbed returns the blobbed diagram with a text.
func blobbed(t *testing.T, text string) impl.Blobbed {
	t.Helper()
	d, code := impl.ParseBlobbed(text)
	if code != impl.ErrNone || !impl.IsBlobbed(d) {
		t.Fatalf("ParseBlobbed(%q) = %v, %d", text, d, code)
	}
	return d
}

// blobText returns the text of a blobbed diagram.
func blobText(t *testing.T, d impl.Blobbed) string {
	t.Helper()
	text, code := impl.BlobbedText(d)
	if code != impl.ErrNone {
		t.Fatalf("BlobbedText(%v): code %d", d, code)
	}
	return text
}

// blobProduct returns the product of blobbed diagrams, and the numbers of its loops.
func blobProduct(t *testing.T, d impl.Blobbed, e impl.Blobbed) (impl.Blobbed, [2]int64) {
	t.Helper()
	product, loops, code := impl.MultiplyBlobbed(d, e)
	if code != impl.ErrNone || !impl.IsBlobbed(product) || len(loops) != 2 {
		t.Fatalf("MultiplyBlobbed(%v, %v) = %v, %v, %d", d, e, product, loops, code)
	}
	return product, [2]int64(loops)
}

// blobFlip returns the flip of a blobbed diagram.
func blobFlip(t *testing.T, d impl.Blobbed) impl.Blobbed {
	t.Helper()
	flip, code := impl.FlipBlobbed(d)
	if code != impl.ErrNone {
		t.Fatalf("FlipBlobbed(%v): code %d", d, code)
	}
	return flip
}

// blobValue returns the value of a word, and the numbers of its loops.
func blobValue(t *testing.T, n int64, word []int64) (impl.Blobbed, [2]int64) {
	t.Helper()
	d, loops, code := impl.ValueOfBlobWord(n, word)
	if code != impl.ErrNone || len(loops) != 2 {
		t.Fatalf("ValueOfBlobWord(%d, %v) = %v, %v, %d", n, word, d, loops, code)
	}
	return d, [2]int64(loops)
}

// blobClosure returns the numbers of the loops of the closure of a blobbed diagram.
func blobClosure(t *testing.T, d impl.Blobbed) [2]int64 {
	t.Helper()
	loops, code := impl.ClosureOfBlobbed(d)
	if code != impl.ErrNone || len(loops) != 2 {
		t.Fatalf("ClosureOfBlobbed(%v) = %v, %d", d, loops, code)
	}
	return [2]int64(loops)
}

// bothLoops returns the numbers of the loops of two steps together.
func bothLoops(x [2]int64, y [2]int64) [2]int64 {
	return [2]int64{x[0] + y[0], x[1] + y[1]}
}
