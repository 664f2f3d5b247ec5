package tests

import (
	"slices"
	"strings"
	"testing"

	"loop.example/g01251/impl"
)

// Tests of chapter 9: what the functions return for blobbed diagrams and words.

// TestIsBlobbed goes through all structs of a diagram of a size of at most 5 with blobs at any of its
// points.
func TestIsBlobbed(t *testing.T) {
	for n := int64(1); n <= 5; n++ {
		count := int64(0)
		for _, bare := range modelLists[n] {
			for mask := range 1 << (2 * n) {
				d := impl.Blobbed{Diagram: bare}
				for i := range 2 * n {
					d.Blobs[i] = mask>>i&1 == 1
				}
				want := modelIsBlobbed(d)
				if impl.IsBlobbed(d) != want {
					t.Fatalf("IsBlobbed(%v) = %v", d, !want)
				}
				count += int64(b2i(want))
			}
		}
		if count != binomial(2*n, n) {
			t.Errorf("there are %d blobbed diagrams of the size %d", count, n)
		}
	}
}

// TestIsBlobbedOfChangedBlobs changes each entry of all blobbed diagrams.
func TestIsBlobbedOfChangedBlobs(t *testing.T) {
	forBlobs(8, func(d impl.Blobbed) {
		if !impl.IsBlobbed(d) || !modelIsBlobbed(d) {
			t.Fatalf("IsBlobbed(%v) = false", d)
		}
		for i := range d.Blobs {
			x := d
			x.Blobs[i] = !x.Blobs[i]
			if impl.IsBlobbed(x) {
				t.Fatalf("IsBlobbed(%v) = true", x)
			}
			if i >= 2*int(d.Diagram.Size) {
				continue
			}
			// The same blob at both ends is allowed on lines that are open to the left.
			x.Blobs[d.Diagram.Mate[i]] = x.Blobs[i]
			if impl.IsBlobbed(x) != modelIsOpen(d.Diagram, i) {
				t.Fatalf("IsBlobbed(%v) = %v", x, !modelIsOpen(d.Diagram, i))
			}
		}
	})
}

func TestIsBlobbedOfChangedDiagrams(t *testing.T) {
	forBlobs(6, func(d impl.Blobbed) {
		for _, size := range []int64{d.Diagram.Size - 1, d.Diagram.Size + 1, -d.Diagram.Size, d.Diagram.Size + 256, 0} {
			x := d
			x.Diagram.Size = size
			if impl.IsBlobbed(x) {
				t.Fatalf("IsBlobbed(%v) = true", x)
			}
		}
		for i := range d.Diagram.Mate {
			x := d
			x.Diagram.Mate[i] ^= 1
			if impl.IsBlobbed(x) {
				t.Fatalf("IsBlobbed(%v) = true", x)
			}
		}
	})
}

// TestTextsOfBlobs goes through all blobbed diagrams: they come back from their texts.
func TestTextsOfBlobs(t *testing.T) {
	forBlobs(8, func(d impl.Blobbed) {
		text, code := impl.BlobbedText(d)
		if text != modelBlobText(d) || code != impl.ErrNone {
			t.Fatalf("BlobbedText(%v) = %q, %d", d, text, code)
		}
		if back, code := impl.ParseBlobbed(text); back != d || code != impl.ErrNone {
			t.Fatalf("ParseBlobbed(%q) = %v, %d", text, back, code)
		}
	})
	for text, want := range map[string]impl.Blobbed{
		"()":     {Diagram: impl.Diagram{Size: 1, Mate: [16]byte{1, 0}}},
		"[]":     {Diagram: impl.Diagram{Size: 1, Mate: [16]byte{1, 0}}, Blobs: [16]bool{true, true}},
		"(())":   {Diagram: impl.Diagram{Size: 2, Mate: [16]byte{2, 3, 0, 1}}},
		"[()]":   {Diagram: impl.Diagram{Size: 2, Mate: [16]byte{2, 3, 0, 1}}, Blobs: [16]bool{true, false, true}},
		"[]()":   {Diagram: impl.Diagram{Size: 2, Mate: [16]byte{1, 0, 3, 2}}, Blobs: [16]bool{true, true}},
		"()[]":   {Diagram: impl.Diagram{Size: 2, Mate: [16]byte{1, 0, 3, 2}}, Blobs: [16]bool{false, false, true, true}},
		"[][]":   {Diagram: impl.Diagram{Size: 2, Mate: [16]byte{1, 0, 3, 2}}, Blobs: [16]bool{true, true, true, true}},
		"()[()]": {Diagram: impl.Diagram{Size: 3, Mate: [16]byte{1, 0, 3, 2, 5, 4}}, Blobs: [16]bool{false, false, true, true}},
		"[()]()": {Diagram: impl.Diagram{Size: 3, Mate: [16]byte{5, 2, 1, 4, 3, 0}}, Blobs: [16]bool{0: true, 5: true}},
		"(())[]": {Diagram: impl.Diagram{Size: 3, Mate: [16]byte{5, 2, 1, 4, 3, 0}}, Blobs: [16]bool{3: true, 4: true}},
	} {
		if got := blobText(t, want); got != text || blobbed(t, text) != want {
			t.Errorf("BlobbedText(%v) = %q, ParseBlobbed(%q) = %v", want, got, text, blobbed(t, text))
		}
	}
}

// TestTextsOfNoBlobs goes through all texts of at most eight brackets, and shorter ones with another
// letter.
func TestTextsOfNoBlobs(t *testing.T) {
	check := func(text string) {
		d, code := impl.ParseBlobbed(text)
		if !modelIsBlobText(text) {
			if d != (impl.Blobbed{}) || code != impl.ErrSyntax {
				t.Fatalf("ParseBlobbed(%q) = %v, %d", text, d, code)
			}
			return
		}
		if d != modelBlobbed(text) || code != impl.ErrNone {
			t.Fatalf("ParseBlobbed(%q) = %v, %d", text, d, code)
		}
	}
	for length := range 9 {
		forTexts("()[]", length, check)
	}
	for length := range 7 {
		forTexts("()[]|", length, check)
	}
}

// TestTextsOfChangedLetters puts each byte into the place of each letter, takes letters away, and puts
// some behind others.
func TestTextsOfChangedLetters(t *testing.T) {
	check := func(text string) {
		_, code := impl.ParseBlobbed(text)
		if want := modelIsBlobText(text); want != (code == impl.ErrNone) || !want && code != impl.ErrSyntax {
			t.Fatalf("ParseBlobbed(%q): code %d", text, code)
		}
	}
	for _, text := range []string{"()", "[]", "(())", "[()]", "[]()", "()[()]", "[(())()][](())", "[][][][][][][][]", "[((((((()))))))]", "(()()())[(())()]"} {
		check(text)
		for i := range text {
			check(text[:i] + text[i+1:])
			check(text[:i] + "[]" + text[i:])
			check(text[:i] + "()" + text[i:])
			for letter := range 256 {
				other := string([]byte{byte(letter)})
				check(text[:i] + other + text[i+1:])
				check(text[:i] + other + text[i:])
				check(text[:i] + other + text[i:len(text)-1] + other)
			}
		}
	}
}

// TestOpenLines goes through all diagrams.
func TestOpenLines(t *testing.T) {
	for n := int64(1); n <= 8; n++ {
		for _, d := range modelLists[n] {
			if points, code := impl.OpenLines(d); !slices.Equal(points, modelOpenLines(d)) || code != impl.ErrNone {
				t.Fatalf("OpenLines(%v) = %v, %d, not %v", d, points, code, modelOpenLines(d))
			}
		}
	}
	for text, want := range map[string][]int64{
		"()": {0}, "(())": {0}, "()()": {0, 3}, "((()))": {0}, "()(())": {0, 2}, "(())()": {0, 4}, "(()())": {0}, "()()()": {0, 2, 4},
		"()()()()": {0, 2, 7, 5}, "(())(())": {0, 7}, "(())()()": {0, 7, 5}, "()((()))": {0, 2}, "((()))()": {0, 5},
		"(((((((())))))))": {0}, "()()()()()()()()": {0, 2, 4, 6, 15, 13, 11, 9}, "()(()()()()()())": {0, 2}, "(((())))(((())))": {0, 15}, "(())()(()())(())": {0, 4, 6, 11},
	} {
		if points, code := impl.OpenLines(parsed(t, text)); !slices.Equal(points, want) || code != impl.ErrNone {
			t.Errorf("OpenLines of %q = %v, %d, not %v", text, points, code, want)
		}
	}
}

func TestBlobs(t *testing.T) {
	for n := int64(1); n <= 8; n++ {
		d, code := impl.BlobOf(n)
		want := "[" + strings.Repeat("(", int(n)-1) + strings.Repeat(")", int(n)-1) + "]"
		if d != modelLetter(n, -1) || blobText(t, d) != want || code != impl.ErrNone {
			t.Errorf("BlobOf(%d) = %v, %d", n, d, code)
		}
	}
}

// TestProductsOfBlobs goes through all pairs of the sizes 1 to 5, and many ones of the others. Loops of
// both kinds occur, also more than one in one product.
func TestProductsOfBlobs(t *testing.T) {
	var most [9][2]int64
	var both [9]bool
	forPairsOfBlobs(5, 8000, func(d impl.Blobbed, e impl.Blobbed) {
		want, wanted := modelBlobProduct(d, e)
		product, loops, code := impl.MultiplyBlobbed(d, e)
		if product != want || !slices.Equal(loops, wanted) || code != impl.ErrNone || !modelIsBlobbed(product) {
			t.Fatalf("MultiplyBlobbed(%v, %v) = %v, %v, %d, not %v, %v", d, e, product, loops, code, want, wanted)
		}
		n := d.Diagram.Size
		for kind := range 2 {
			most[n][kind] = max(most[n][kind], loops[kind])
		}
		both[n] = both[n] || loops[0] > 0 && loops[1] > 0
	})
	for n := 2; n <= 8; n++ {
		if wanted := int64(min(n/2, 3)); most[n][0] < wanted || most[n][1] < wanted || n > 3 && !both[n] {
			t.Errorf("products of the size %d leave out at most %v loops", n, most[n])
		}
	}
}

// TestBareProducts checks that bare diagrams of products are products of the bare ones, and that loops of
// both kinds together are those of chapter 1.
func TestBareProducts(t *testing.T) {
	forPairsOfBlobs(4, 2000, func(d impl.Blobbed, e impl.Blobbed) {
		product, loops := blobProduct(t, d, e)
		x, first := impl.BareDiagram(d)
		y, second := impl.BareDiagram(e)
		bare, third := impl.BareDiagram(product)
		want, count, _ := impl.MultiplyDiagrams(x, y)
		if bare != want || loops[0]+loops[1] != count || first+second+third != impl.ErrNone {
			t.Fatalf("the bare product of %v and %v is %v, with the loops %v", d, e, bare, loops)
		}
	})
}

// TestProductsWithUnits goes through all blobbed diagrams.
func TestProductsWithUnits(t *testing.T) {
	forBlobs(8, func(d impl.Blobbed) {
		one := impl.Blobbed{Diagram: modelUnit(d.Diagram.Size)}
		left, first := blobProduct(t, one, d)
		right, second := blobProduct(t, d, one)
		if left != d || right != d || bothLoops(first, second) != [2]int64{} {
			t.Fatalf("products of the unit and %v are %v and %v", d, left, right)
		}
	})
}

func TestProductsOfBlobsByHand(t *testing.T) {
	for _, x := range []struct {
		d, e, product string
		loops         [2]int64
	}{
		{"()", "()", "()", [2]int64{0, 0}},
		{"[]", "()", "[]", [2]int64{0, 0}},
		{"()", "[]", "[]", [2]int64{0, 0}},
		{"[]", "[]", "[]", [2]int64{0, 0}},
		{"[()]", "[()]", "[()]", [2]int64{0, 0}},
		{"[()]", "()()", "[]()", [2]int64{0, 0}},
		{"()()", "[()]", "()[]", [2]int64{0, 0}},
		{"()()", "()()", "()()", [2]int64{1, 0}},
		{"()()", "[]()", "()()", [2]int64{0, 1}},
		{"()[]", "()()", "()()", [2]int64{0, 1}},
		{"()[]", "[]()", "()()", [2]int64{0, 1}},
		{"[]()", "()[]", "[][]", [2]int64{1, 0}},
		{"[][]", "[][]", "[][]", [2]int64{0, 1}},
		{"()(())", "(())()", "()()()", [2]int64{1, 0}},
		{"()[()]", "(())()", "()[]()", [2]int64{1, 0}},
		{"[](())", "(())[]", "[]()[]", [2]int64{1, 0}},
		{"(())()", "()(())", "(()())", [2]int64{1, 0}},
		{"[()]()", "()(())", "[()()]", [2]int64{1, 0}},
		{"(())()", "()[()]", "[()()]", [2]int64{1, 0}},
		{"(())[]", "()(())", "(()())", [2]int64{0, 1}},
		{"(())()", "[](())", "(()())", [2]int64{0, 1}},
		{"()(())", "()(())", "()(())", [2]int64{0, 0}}, // a line of four pieces, without blobs
		{"()[()]", "()(())", "()[()]", [2]int64{0, 0}}, // with a blob on the first piece
		{"()(())", "[](())", "()[()]", [2]int64{0, 0}}, // on the second one
		{"(())[]", "(())()", "[()]()", [2]int64{0, 0}}, // on the third one
		{"()(())", "()[()]", "()[()]", [2]int64{0, 0}}, // on the last one
		{"()()()", "[]()()", "()()()", [2]int64{0, 1}}, // a loop with a blob below
		{"()()[]", "()()()", "()()()", [2]int64{0, 1}}, // a loop with a blob above
		{"()[]()", "()()()", "()[]()", [2]int64{1, 0}}, // a blob on a line that goes through, above
		{"()()()", "()[]()", "()[]()", [2]int64{1, 0}}, // a blob on a line that goes through, below
		{"()()()()", "()()()()", "()()()()", [2]int64{2, 0}},
		{"()()()()", "[]()()()", "()()()()", [2]int64{1, 1}},
		{"()()[]()", "()[]()()", "()()()()", [2]int64{1, 1}},
		{"()()[]()", "[]()()()", "()()()()", [2]int64{0, 2}},
		{"()()()[]", "[]()()()", "()()()()", [2]int64{1, 1}},
		{"(())(())", "[()]()()", "(())()()", [2]int64{1, 1}},
		{"()()(())", "()[]()()", "()()()()", [2]int64{0, 1}},
		{"()()(())", "(())()()", "()()()()", [2]int64{2, 0}},
		{"()()[()]", "(())()()", "()()()()", [2]int64{1, 1}},
		{"[][][][][][][][]", "[][][][][][][][]", "[][][][][][][][]", [2]int64{0, 4}},
		{"[]()[]()()()()()", "()()[]()()()()[]", "[]()[]()()()()[]", [2]int64{3, 1}},
		{"[((((((()))))))]", "()()()()()()()()", "[]()()()()()()()", [2]int64{0, 0}},
		{"()()()()()()()()", "[((((((()))))))]", "()()()()()()()[]", [2]int64{0, 0}},
	} {
		d, e := blobbed(t, x.d), blobbed(t, x.e)
		product, loops := blobProduct(t, d, e)
		if blobText(t, product) != x.product || loops != x.loops {
			t.Errorf("MultiplyBlobbed of %s and %s is %s, %v", x.d, x.e, blobText(t, product), loops)
		}
	}
}

// checkBlobsAssociative checks the first half of P9 for three blobbed diagrams.
func checkBlobsAssociative(t *testing.T, d impl.Blobbed, e impl.Blobbed, f impl.Blobbed) {
	t.Helper()
	de, a := blobProduct(t, d, e)
	left, b := blobProduct(t, de, f)
	ef, x := blobProduct(t, e, f)
	right, y := blobProduct(t, d, ef)
	if left != right || bothLoops(a, b) != bothLoops(x, y) {
		t.Fatalf("%v, %v, %v: %v with the loops %v, %v with %v", d, e, f, left, bothLoops(a, b), right, bothLoops(x, y))
	}
}

// TestProductsOfBlobsAreAssociative goes through all triples of the sizes 1 to 3, all pairs with some
// third ones of the size 4, and many triples of the others.
func TestProductsOfBlobsAreAssociative(t *testing.T) {
	s := sampler(9)
	forPairsOfBlobs(3, 3000, func(d impl.Blobbed, e impl.Blobbed) {
		n := d.Diagram.Size
		if n > 3 {
			checkBlobsAssociative(t, d, e, s.blobbed(n))
			return
		}
		for _, f := range modelBlobs[n] {
			checkBlobsAssociative(t, d, e, f)
		}
	})
	for _, d := range modelBlobs[4] {
		for _, e := range modelBlobs[4] {
			for range 4 {
				checkBlobsAssociative(t, d, e, s.blobbed(4))
			}
		}
	}
}

// TestFlipsOfBlobs goes through all blobbed diagrams.
func TestFlipsOfBlobs(t *testing.T) {
	forBlobs(8, func(d impl.Blobbed) {
		flip, code := impl.FlipBlobbed(d)
		if flip != modelBlobFlip(d) || code != impl.ErrNone {
			t.Fatalf("FlipBlobbed(%v) = %v, %d, not %v", d, flip, code, modelBlobFlip(d))
		}
		if bare, _ := impl.FlipDiagram(d.Diagram); flip.Diagram != bare || blobFlip(t, flip) != d {
			t.Fatalf("FlipBlobbed(%v) = %v", d, flip)
		}
	})
	for text, want := range map[string]string{
		"()": "()", "[]": "[]", "[()]": "[()]", "[]()": "()[]", "[][]": "[][]", "()[()]": "[()]()", "[]()()": "()()[]", "[(())()]": "[()(())]", "()[]()()": "()()[]()", "[()][]()(())": "(())()[][()]", "[]()[((()))](())": "(())[((()))]()[]",
	} {
		if flip := blobText(t, blobFlip(t, blobbed(t, text))); flip != want {
			t.Errorf("the flip of %s is %s, not %s", text, flip, want)
		}
	}
}

func TestFlipsTurnProductsOfBlobsRound(t *testing.T) {
	forPairsOfBlobs(4, 2000, func(d impl.Blobbed, e impl.Blobbed) {
		product, loops := blobProduct(t, d, e)
		flipped, same := blobProduct(t, blobFlip(t, e), blobFlip(t, d))
		if blobFlip(t, product) != flipped || loops != same {
			t.Fatalf("the product of the flips of %v and %v is %v, with the loops %v", e, d, flipped, same)
		}
	})
}

func TestListsOfBlobs(t *testing.T) {
	for n := int64(1); n <= 4; n++ {
		list, code := impl.AllBlobbed(n)
		if !slices.Equal(list, modelBlobs[n]) || code != impl.ErrNone {
			t.Errorf("AllBlobbed(%d) has %d, code %d", n, len(list), code)
		}
	}
	for n, want := range map[int64]string{
		1: "() []",
		2: "(()) [()] ()() ()[] []() [][]",
		3: "((())) [(())] (()()) [()()] (())() (())[] [()]() [()][] ()(()) ()[()] [](()) [][()] ()()() ()()[] ()[]() ()[][] []()() []()[] [][]() [][][]",
	} {
		list, code := impl.AllBlobbed(n)
		texts := []string{}
		for _, d := range list {
			texts = append(texts, blobText(t, d))
		}
		if got := strings.Join(texts, " "); got != want || code != impl.ErrNone {
			t.Errorf("AllBlobbed(%d) = %s, %d", n, got, code)
		}
	}
}

func TestCountsOfBlobs(t *testing.T) {
	for n, want := range []int64{0, 2, 6, 20, 70, 252, 924, 3432, 12870} {
		if n == 0 {
			continue
		}
		count, code := impl.CountBlobbed(int64(n))
		if count != want || count != binomial(int64(2*n), int64(n)) || count != int64(len(modelBlobs[n])) || code != impl.ErrNone {
			t.Errorf("CountBlobbed(%d) = %d, %d, not %d", n, count, code, want)
		}
	}
}

func TestBareDiagrams(t *testing.T) {
	forBlobs(8, func(d impl.Blobbed) {
		bare, code := impl.BareDiagram(d)
		if modelText(bare) != bareText(modelBlobText(d)) || bare != d.Diagram || code != impl.ErrNone {
			t.Fatalf("BareDiagram(%v) = %v, %d", d, bare, code)
		}
	})
}

func TestValuesOfBlobWords(t *testing.T) {
	for n := int64(1); n <= 8; n++ {
		for _, word := range blobWordsOfSize(n) {
			want, wanted := modelBlobValue(n, word)
			d, loops, code := impl.ValueOfBlobWord(n, word)
			if d != want || !slices.Equal(loops, wanted) || code != impl.ErrNone || !impl.IsBlobbed(d) {
				t.Fatalf("ValueOfBlobWord(%d, %v) = %v, %v, %d, not %v, %v", n, word, d, loops, code, want, wanted)
			}
		}
	}
}

// TestValuesOfShortBlobWords goes through all words of at most five numbers.
func TestValuesOfShortBlobWords(t *testing.T) {
	for n := int64(1); n <= 5; n++ {
		for length := range 6 {
			forWords(n+1, length, func(word []int64) {
				for k := range word {
					word[k]--
				}
				want, wanted := modelBlobValue(n, word)
				if d, loops := blobValue(t, n, word); d != want || loops != [2]int64(wanted) {
					t.Fatalf("ValueOfBlobWord(%d, %v) = %v, %v, not %v, %v", n, word, d, loops, want, wanted)
				}
			})
		}
	}
}

func TestValuesOfBlobWordsByHand(t *testing.T) {
	for _, x := range []struct {
		n     int64
		word  []int64
		text  string
		loops [2]int64
	}{
		{1, nil, "()", [2]int64{0, 0}},
		{1, []int64{-1}, "[]", [2]int64{0, 0}},
		{1, repeated(-1, 60), "[]", [2]int64{0, 0}},
		{2, nil, "(())", [2]int64{0, 0}},
		{2, []int64{-1}, "[()]", [2]int64{0, 0}},
		{2, []int64{0}, "()()", [2]int64{0, 0}},
		{2, []int64{-1, 0}, "[]()", [2]int64{0, 0}},
		{2, []int64{0, -1}, "()[]", [2]int64{0, 0}},
		{2, []int64{0, 0}, "()()", [2]int64{1, 0}},
		{2, []int64{0, -1, 0}, "()()", [2]int64{0, 1}},
		{2, []int64{0, -1, -1, 0}, "()()", [2]int64{0, 1}},
		{2, []int64{0, -1, 0, 0}, "()()", [2]int64{1, 1}},
		{2, []int64{-1, 0, -1, 0, -1}, "[][]", [2]int64{0, 1}},
		{2, repeated(0, 60), "()()", [2]int64{59, 0}},
		{2, slices.Repeat([]int64{0, -1}, 30), "()[]", [2]int64{0, 29}},
		{2, slices.Repeat([]int64{-1, 0}, 30), "[]()", [2]int64{0, 29}},
		{2, slices.Repeat([]int64{0, 0, -1}, 20), "()[]", [2]int64{20, 19}},
		{3, []int64{1, -1}, "[()()]", [2]int64{0, 0}},
		{3, []int64{0, 1}, "()(())", [2]int64{0, 0}},
		{3, []int64{0, -1, 1}, "()[()]", [2]int64{0, 0}},
		{3, []int64{0, 1, -1}, "()[()]", [2]int64{0, 0}},
		{3, []int64{-1, 0, 1}, "[](())", [2]int64{0, 0}},
		{3, []int64{1, -1, 0, 1}, "[()()]", [2]int64{0, 0}},
		{3, []int64{0, 1, -1, 0}, "()[]()", [2]int64{0, 0}},
		{4, []int64{0, 2, 1, 0, -1, 2}, "()()()[]", [2]int64{1, 0}},
		{8, []int64{}, "(((((((())))))))", [2]int64{0, 0}},
		{8, []int64{-1, 6}, "[(((((()())))))]", [2]int64{0, 0}},
		{8, repeated(6, 60), "((((((()()))))))", [2]int64{59, 0}},
		{8, repeated(-1, 60), "[((((((()))))))]", [2]int64{0, 0}},
	} {
		d, loops := blobValue(t, x.n, x.word)
		if blobText(t, d) != x.text || loops != x.loops {
			t.Errorf("ValueOfBlobWord(%d, %v) = %s, %v, not %s, %v", x.n, x.word, blobText(t, d), loops, x.text, x.loops)
		}
	}
}

// TestBlobWordsWithoutBlobs checks that words without the blob have the values of chapter 3.
func TestBlobWordsWithoutBlobs(t *testing.T) {
	for n := int64(2); n <= 8; n++ {
		for _, word := range wordsOfSize(n) {
			want, count := valued(t, n, word)
			if d, loops := blobValue(t, n, word); d != (impl.Blobbed{Diagram: want}) || loops != [2]int64{count, 0} {
				t.Fatalf("ValueOfBlobWord(%d, %v) = %v, %v", n, word, d, loops)
			}
		}
	}
}

// TestRelationsOfBlobs checks the rules of the blob with itself and with generators.
func TestRelationsOfBlobs(t *testing.T) {
	for n := int64(1); n <= 8; n++ {
		same := func(x []int64, y []int64, more [2]int64) {
			t.Helper()
			d, first := blobValue(t, n, x)
			e, second := blobValue(t, n, y)
			if d != e || first != bothLoops(second, more) {
				t.Errorf("size %d: the values of %v and %v are %v and %v", n, x, y, d, e)
			}
		}
		same([]int64{-1, -1}, []int64{-1}, [2]int64{0, 0})
		for i := int64(1); i < n-1; i++ {
			same([]int64{-1, i}, []int64{i, -1}, [2]int64{0, 0})
		}
		if n > 1 {
			same([]int64{0, -1, 0}, []int64{0}, [2]int64{0, 1})
		}
	}
}

// TestBlobWordsOneBehindTheOther checks that they have the product of their values.
func TestBlobWordsOneBehindTheOther(t *testing.T) {
	for n := int64(1); n <= 8; n++ {
		words := blobWordsOfSize(n)
		for _, a := range words {
			d, first := blobValue(t, n, a)
			for _, b := range words {
				if len(a)+len(b) > 60 {
					continue
				}
				e, second := blobValue(t, n, b)
				want, between := blobProduct(t, d, e)
				got, loops := blobValue(t, n, slices.Concat(a, b))
				if got != want || loops != bothLoops(bothLoops(first, second), between) {
					t.Fatalf("ValueOfBlobWord of %v and %v is %v, %v", a, b, got, loops)
				}
			}
		}
	}
}

// TestBlobWords checks the second half of P9, for all blobbed diagrams that have such words.
func TestBlobWords(t *testing.T) {
	for n := int64(1); n <= 4; n++ {
		if len(modelBlobWords[n]) != len(modelBlobs[n]) {
			t.Fatalf("the model has %d words of the size %d", len(modelBlobWords[n]), n)
		}
		longest := 0
		for _, d := range modelBlobs[n] {
			word, code := impl.BlobWordOf(d)
			if !slices.Equal(word, modelBlobWords[n][d]) || code != impl.ErrNone {
				t.Fatalf("BlobWordOf(%v) = %v, %d, not %v", d, word, code, modelBlobWords[n][d])
			}
			if back, loops := blobValue(t, n, word); back != d || loops != [2]int64{} {
				t.Fatalf("the value of %v is %v, with the loops %v", word, back, loops)
			}
			longest = max(longest, len(word))
		}
		if want := []int{0, 1, 3, 6, 10}[n]; longest != want {
			t.Errorf("the longest words of the size %d have %d numbers", n, longest)
		}
	}
}

// TestFirstOfAllBlobWords goes through all words of small sizes, shorter ones first, in lexicographic
// order: the first one without loops of a blobbed diagram is that which is looked for.
func TestFirstOfAllBlobWords(t *testing.T) {
	for n, longest := range map[int64]int{1: 3, 2: 6, 3: 7, 4: 6} {
		met := map[impl.Blobbed]bool{}
		for length := range longest + 1 {
			forWords(n+1, length, func(word []int64) {
				for k := range word {
					word[k]--
				}
				d, loops := blobValue(t, n, word)
				if met[d] || loops != [2]int64{} {
					return
				}
				met[d] = true
				if got, code := impl.BlobWordOf(d); !slices.Equal(got, word) || code != impl.ErrNone {
					t.Fatalf("BlobWordOf(%v) = %v, %d, not %v", d, got, code, word)
				}
			})
		}
		if n < 4 && len(met) != len(modelBlobs[n]) {
			t.Errorf("%d blobbed diagrams of the size %d have words", len(met), n)
		}
	}
}

func TestBlobWordsByHand(t *testing.T) {
	for text, want := range map[string][]int64{
		"()": {}, "[]": {-1},
		"(())": {}, "[()]": {-1}, "()()": {0}, "[]()": {-1, 0}, "()[]": {0, -1}, "[][]": {-1, 0, -1},
		"((()))": {}, "[(())]": {-1}, "(()())": {1}, "[()()]": {-1, 1}, "(())()": {1, 0}, "[()]()": {-1, 1, 0}, "()[()]": {0, -1, 1}, "()[]()": {0, -1, 1, 0}, "[][][]": {-1, 0, -1, 1, 0, -1},
		"(((())))": {}, "((()()))": {2}, "[(()())]": {-1, 2}, "()()()()": {0, 2}, "[][][()]": {-1, 0, -1, 1, 0, -1, 2, 1}, "[()][][]": {-1, 1, 0, -1, 2, 1, 0, -1}, "[][][][]": {-1, 0, -1, 1, 0, -1, 2, 1, 0, -1},
	} {
		if word, code := impl.BlobWordOf(blobbed(t, text)); !slices.Equal(word, want) || code != impl.ErrNone {
			t.Errorf("BlobWordOf of %s = %v, %d, not %v", text, word, code, want)
		}
	}
}

// TestClosuresOfBlobs goes through all blobbed diagrams.
func TestClosuresOfBlobs(t *testing.T) {
	forBlobs(8, func(d impl.Blobbed) {
		loops, code := impl.ClosureOfBlobbed(d)
		if !slices.Equal(loops, modelBlobClosure(d)) || code != impl.ErrNone {
			t.Fatalf("ClosureOfBlobbed(%v) = %v, %d, not %v", d, loops, code, modelBlobClosure(d))
		}
		if count, _ := impl.ClosureLoops(d.Diagram); loops[0]+loops[1] != count {
			t.Fatalf("ClosureOfBlobbed(%v) = %v, with %d loops of chapter 1", d, loops, count)
		}
	})
	for text, want := range map[string][2]int64{
		"()": {1, 0}, "[]": {0, 1}, "(())": {2, 0}, "[()]": {1, 1}, "()()": {1, 0}, "[]()": {0, 1}, "()[]": {0, 1}, "[][]": {0, 1},
		"[(())]": {2, 1}, "(()())": {2, 0}, "[()()]": {1, 1}, "()[()]": {0, 1}, "[]()()": {1, 1}, "()()()": {2, 0},
		"()()()()": {2, 0}, "[]()()()": {1, 1}, "[][]()()": {0, 2}, "()[][]()": {1, 1}, "[]()()[]": {1, 1}, "[]()[]()": {0, 2}, "[()](())": {1, 1}, "[()][()]": {1, 1}, "(())(())": {2, 0}, "()()[()]": {0, 1},
		"(((((((())))))))": {8, 0}, "[((((((()))))))]": {7, 1}, "()()()()()()()()": {4, 0}, "[][][][][][][][]": {0, 4}, "[]()()()()()()()": {3, 1}, "[]()()()()()[]()": {2, 2},
	} {
		if loops := blobClosure(t, blobbed(t, text)); loops != want {
			t.Errorf("ClosureOfBlobbed of %s = %v, not %v", text, loops, want)
		}
	}
}

// TestClosuresOfProductsOfBlobs checks that the loops of closures, and those that are left out, do not
// depend on the order of the factors, nor on the side from which the closure is seen.
func TestClosuresOfProductsOfBlobs(t *testing.T) {
	forPairsOfBlobs(4, 2000, func(d impl.Blobbed, e impl.Blobbed) {
		de, first := blobProduct(t, d, e)
		ed, second := blobProduct(t, e, d)
		x, y := bothLoops(blobClosure(t, de), first), bothLoops(blobClosure(t, ed), second)
		if x != y || blobClosure(t, blobFlip(t, de)) != blobClosure(t, de) {
			t.Fatalf("the products of %v and %v have the loops %v and %v", d, e, x, y)
		}
	})
}
