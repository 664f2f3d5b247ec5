package tests

import (
	"fmt"
	"math"
	"strings"
	"testing"

	"loop.example/g01251/impl"
)

// Tests of chapter 11: wrong lines, the limits of functions and of texts, structs that are no desks, and
// the memory of arguments and results.

// TestErrorsOfNoDesks checks that lines do nothing with structs that are no desks.
func TestErrorsOfNoDesks(t *testing.T) {
	zero := impl.Element{Prime: 5, Loop: 2, Size: 2}
	good := modelOne(zero)
	bad := []impl.Desk{
		{}, {First: good}, {Second: good},
		{First: good, Second: modelOne(impl.Element{Prime: 7, Loop: 2, Size: 2})}, {First: good, Second: impl.Element{Prime: 5, Loop: 3, Size: 2}}, {First: zero, Second: impl.Element{Prime: 5, Loop: 2, Size: 3}},
	}
	for _, x := range badElements() {
		bad = append(bad, impl.Desk{First: x, Second: good}, impl.Desk{First: good, Second: x}, impl.Desk{First: x, Second: x},
			impl.Desk{First: x, Second: impl.Element{Prime: x.Prime, Loop: x.Loop, Size: x.Size}}, impl.Desk{First: impl.Element{Prime: x.Prime, Loop: x.Loop, Size: x.Size}, Second: x})
	}
	lines := append(goodLines(), "", " ", "fly", "first", "cup", "cup x")
	for _, d := range bad {
		if modelIsElement(d.First) && modelIsElement(d.Second) && d.First.Prime == d.Second.Prime && d.First.Loop == d.Second.Loop && d.First.Size == d.Second.Size {
			continue
		}
		if impl.IsDesk(d) {
			t.Errorf("IsDesk(%v) = true", d)
		}
		for _, line := range lines {
			if next, output := impl.RunLine(d, line); !isZeroDesk(next) || output != "" {
				t.Fatalf("RunLine(%v, %q) = %v, %q", d, line, next, output)
			}
		}
	}
}

// modelIsElement checks each condition on elements by itself.
func modelIsElement(x impl.Element) bool {
	isPrime := false
	for _, p := range primes {
		isPrime = isPrime || p == x.Prime
	}
	if !isPrime || x.Loop < 0 || x.Loop >= x.Prime || x.Size < 1 || x.Size > 8 || len(x.Terms) > 140 {
		return false
	}
	last := ""
	for _, term := range x.Terms {
		if term.Diagram.Size != x.Size || !modelIsDiagram(term.Diagram) || modelText(term.Diagram) <= last || term.Factor < 1 || term.Factor >= x.Prime {
			return false
		}
		last = modelText(term.Diagram)
	}
	return true
}

// TestErrorsOfLines tries lines that are none of the document's.
func TestErrorsOfLines(t *testing.T) {
	desks := []impl.Desk{impl.NewDesk(), deskOfSeven(t), modelDesk(2, 1, 1), {First: firstTerms(97, 5, 8, 0, 140), Second: firstTerms(97, 5, 8, 140, 140)}}
	for _, line := range []string{
		"", " ", "  ", "\n", "\t", "\r", "0", "1", "-", "fly", "error", "ok", "none", "yes", "help", "quit", "X", "Y", "TEXT", "1*((()))", "set", "third 0", "cups 1", "sho", "showw", "shows", "show\n", "\nshow", "show\nshow", "show\r", "show\t", "\tshow", "show\x00", "\x00", "show;", "show,other", "s how", "show\u00a0", "\ufeffshow", "sh\u043ew", "\xff", "show\xff",
		"new", "new 5", "new 5 2", "new 5 2 2 2", "new5 2 2", "new 5,2,2", "new\t5\t2\t2", "first", "first ", "first  ", "second", "second ", "first\t0", "second\n0", "first0", "firsts 0", "cup", "cup ", "cup1", "cup 0 1", "cup\t0", "cup 0\t", "cup a", "cup one", "turn", "turn ", "turn () ()", "loops", "loops ()", "loops () () ()", "loops ()()", "loops  () ()", "order () ", "order ", "order  ()",
		"reset reset", "reset ok", "show show", "show 0", "other 1", "plus 1", "times 2", "close 1", "swap X Y", "minus", "add", "times X Y", "power", "scale", "power two", "halves", "gram", "rank", "spins", "rank 1 1", "gram 1 1 1", "halves 1 0",
	} {
		for _, d := range desks {
			checkWrong(t, d, line)
		}
	}
}

// TestErrorsOfWordsOfLines takes words away from right lines, and puts some there, also empty ones, and
// changes their letters.
func TestErrorsOfWordsOfLines(t *testing.T) {
	d := deskOfSeven(t)
	for _, line := range goodLines() {
		words := strings.Split(line, " ")
		for k := range words {
			if k > 0 {
				checkWrong(t, d, strings.Join(words[:k], " "))
			}
			// One blank at the front, or two in a row.
			checkWrong(t, d, strings.Join(words[:k], " ")+strings.Repeat(" ", 1+b2i(k > 0))+strings.Join(words[k:], " "))
			if k > 0 {
				// One blank is missing.
				checkWrong(t, d, strings.Join(words[:k], " ")+strings.Join(words[k:], " "))
			}
		}
		for _, more := range []string{" ", "  ", " 1", " 0", " ()", " 1*((()))", " show", " \t", "\t", "\r", "\r\n", "\n", "\x00", "\x80", "\u00a0", ";"} {
			checkWrong(t, d, line+more)
		}
		for _, more := range []string{" ", "  ", "\t", "\r", "\n", "\x00", "\xff", "0", "x ", "show ", "- "} {
			checkWrong(t, d, more+line)
		}
		checkWrong(t, d, strings.ToUpper(words[0])+line[len(words[0]):])
		checkWrong(t, d, strings.ToUpper(line[:1])+line[1:])
		checkWrong(t, d, words[0][:len(words[0])-1]+line[len(words[0]):])
		checkWrong(t, d, words[0]+words[0]+line[len(words[0]):])
		checkWrong(t, d, strings.ReplaceAll(line, " ", "\t")+"\t")
	}
}

// badNumbers returns words that are no numbers of the console, though some are numbers elsewhere.
func badNumbers() []string {
	return []string{
		"", "+1", "-1", "+0", "-0", "01", "00", "000000001", "0000000000", "1 ", " 1", "1.", "1.0", "1,0", "1e0", "0x1", "0b1", "1_0", "1_", "_1", "a", "one", "I", "l", "O", "1a", "a1", "1-", "1+", "1+1", "(1)", "\"1\"", "'1'", "1\t", "\t1", "1\r", "1\n", "1\x00", "\u0661", "\uff11", "\u00b9", "1\xff", "\xff", "--1", "- 1",
		"1000000000", "1000000001", "0000000001", "4294967296", "4294967297", "9223372036854775807", "9223372036854775808", "18446744073709551616", "18446744073709551617", "1" + strings.Repeat("0", 400), strings.Repeat("0", 400) + "1", "99999999999999999999",
	}
}

// TestErrorsOfNumbersInLines puts words that are no numbers into all places of numbers.
func TestErrorsOfNumbersInLines(t *testing.T) {
	for _, d := range []impl.Desk{deskOfSeven(t), modelDesk(97, 5, 4), modelDesk(2, 0, 2), modelDesk(5, 2, 1)} {
		for _, word := range badNumbers() {
			for _, command := range numberCommands {
				checkWrong(t, d, command+" "+word)
			}
			for _, line := range []string{"new " + word + " 2 2", "new 5 " + word + " 2", "new 5 2 " + word, "new " + word + " " + word + " " + word} {
				checkWrong(t, d, line)
			}
			// Factors of elements are numbers of another chapter; none of these is one either.
			checkWrong(t, d, "first "+word+"*"+modelText(modelUnit(d.First.Size)))
			checkWrong(t, d, "second "+word)
		}
	}
}

// TestNumbersOfManyDigits has numbers with up to nine digits, of which the functions take some.
func TestNumbersOfManyDigits(t *testing.T) {
	d := deskOfSeven(t)
	for _, row := range [][2]string{
		{"scale 1000000", "2*((()))+1*(()())+3*(())()"}, {"scale 999999", "0"}, {"scale 100000", "3*((()))+5*(()())+1*(())()"}, {"scale 1000001", "error"}, {"scale 9999999", "error"}, {"scale 99999999", "error"}, {"scale 999999999", "error"}, {"scale 100000000", "error"},
		{"power 999999999", "error"}, {"cup 999999999", "error"}, {"halves 999999999", "error"}, {"gram 999999999", "error"}, {"rank 999999999", "error"}, {"spins 999999999", "error"}, {"new 999999999 0 1", "error"}, {"new 7 999999999 1", "error"}, {"new 7 5 999999999", "error"}, {"new 0 0 0", "error"},
	} {
		if _, output := checkLine(t, d, row[0]); output != row[1] {
			t.Errorf("RunLine(%q) = %q, not %q", row[0], output, row[1])
		}
	}
}

// TestErrorsOfNewDesks has primes, loops and sizes at the ends of their ranges, and just out of them.
func TestErrorsOfNewDesks(t *testing.T) {
	d := deskOfSeven(t)
	for _, row := range []struct {
		line string
		text string
	}{
		{"new 2 0 1", "1*()"}, {"new 2 1 8", "1*(((((((())))))))"}, {"new 97 0 1", "1*()"}, {"new 97 96 8", "1*(((((((())))))))"}, {"new 7 5 3", "1*((()))"}, {"new 89 88 2", "1*(())"},
	} {
		next, output := checkLine(t, d, row.line)
		if output != row.text || len(next.First.Terms) != 1 || len(next.Second.Terms) != 0 {
			t.Errorf("RunLine(%q) = %v, %q", row.line, next, output)
		}
	}
	for _, line := range []string{
		"new 0 0 3", "new 1 0 3", "new 4 0 3", "new 9 2 3", "new 91 2 3", "new 95 2 3", "new 96 0 3", "new 98 0 3", "new 99 0 3", "new 101 0 3", "new 103 1 1",
		"new 2 2 3", "new 2 3 3", "new 97 97 3", "new 97 98 3", "new 7 7 3", "new 5 6 3",
		"new 7 3 0", "new 7 3 9", "new 7 3 10", "new 2 0 0", "new 97 96 9", "new 2 2 9", "new 4 4 0",
	} {
		checkWrong(t, d, line)
	}
}

// TestErrorsOfTextsOnDesks gives texts that are no texts of elements that are like those of the desk.
func TestErrorsOfTextsOnDesks(t *testing.T) {
	d := deskOfSeven(t)
	for _, text := range []string{
		"", " ", " 0", "0 ", " 1*((()))", "1*((())) ", "1*((()))  ", "1 *((()))", "1* ((()))", "1*((())) + 1*()()()", "1*((()))+ 1*()()()", "1*((( )))", "\t0", "0\t", "0\n", "00", "+0", "-0", "0+0", "none", "-", "X", "Y",
		"7*((()))", "8*((()))", "10*((()))", "0*((()))", "-1*((()))", "01*((()))", "1*()", "1*(())", "1*(((())))", "2*()()", "1*((()))+1*()", "1*((()))+7*()()()", "1*()()()+1*((()))", "1*((()))+1*((()))", "((()))", "1*", "*((()))", "1", "6", "1*((()))+", "+1*((()))", "1*((()))++1*()()()", "1*((())", "1*((())))", "1*)((())", "1*[[[]]]", "1*|||", "1*((()))*1", "1*((()))-1*()()()", "1*((()))\r", "1*((()))\x00", "1*((()))\xff", "\xef\xbb\xbf1*((()))",
	} {
		checkWrong(t, d, "first "+text)
		checkWrong(t, d, "second "+text)
	}
	for _, text := range []string{"0", "1*((()))", "6*((()))", "6*()()()", "1*((()))+6*()()()", "1*((()))+2*(()())+3*(())()+4*()(())+5*()()()"} {
		if next, output := checkLine(t, d, "first "+text); output != text || !sameElement(next.Second, d.Second) {
			t.Errorf("first %q: %v, %q", text, next, output)
		}
		if next, output := checkLine(t, d, "second "+text); output != text || !sameElement(next.First, d.First) {
			t.Errorf("second %q: %v, %q", text, next, output)
		}
	}
	// Texts of other primes, loops and sizes: the loop is not told by texts.
	for _, kind := range [][3]int64{{7, 5, 3}, {7, 0, 3}, {11, 5, 3}, {5, 4, 3}, {7, 5, 2}, {7, 5, 4}, {97, 96, 8}} {
		x := firstTerms(kind[0], kind[1], kind[2], 0, int(min(catalans[kind[2]], 140)))
		for _, k := range []int{0, len(x.Terms) - 1} {
			one := impl.Element{Prime: x.Prime, Loop: x.Loop, Size: x.Size, Terms: []impl.Term{{Diagram: x.Terms[k].Diagram, Factor: kind[0] - 1}}}
			_, output := checkLine(t, d, "first "+modelElementText(one))
			if want := kind[2] == 3 && kind[0] <= 7; (output != "error") != want {
				t.Errorf("first %q: %q", modelElementText(one), output)
			}
		}
	}
}

// TestLongTextsOnDesks reads texts of 139 to 141 terms.
func TestLongTextsOnDesks(t *testing.T) {
	d := modelDesk(97, 5, 8)
	for _, terms := range []int{139, 140, 141, 200} {
		text := modelElementText(firstTerms(97, 5, 8, 300, terms))
		for _, command := range []string{"first ", "second "} {
			if _, output := checkLine(t, d, command+text); (output == text) != (terms <= 140) || terms > 140 && output != "error" {
				t.Errorf("%s of %d terms: %q", command, terms, output)
			}
		}
	}
}

// TestLimitsOfGeneratorsOnDesks has numbers of generators at the ends of their ranges.
func TestLimitsOfGeneratorsOnDesks(t *testing.T) {
	for n := int64(1); n <= 8; n++ {
		d := modelDesk(7, 3, n)
		for k := int64(0); k <= 10; k++ {
			_, output := checkLine(t, d, fmt.Sprint("cup ", k))
			if (output == "error") != (k > n-2) {
				t.Errorf("cup %d of the size %d: %q", k, n, output)
			}
		}
	}
}

// TestLimitsOfProjectionsOnDesks has desks with and without a projection.
func TestLimitsOfProjectionsOnDesks(t *testing.T) {
	count := map[bool]int{}
	for _, p := range []int64{2, 3, 5, 7, 13, 97} {
		for c := range min(p, 20) {
			for n := int64(1); n <= 8; n++ {
				_, output := checkLine(t, modelDesk(p, c, n), "project")
				if want := n > 5 || n > modelZero(p, c); (output == "error") != want {
					t.Errorf("project for %d, %d, %d: %q", p, c, n, output)
				}
				count[output == "error"]++
			}
		}
	}
	if count[true] < 50 || count[false] < 50 {
		t.Errorf("there are projections or not: %v", count)
	}
}

// TestLimitsOfSumsOnDesks adds elements whose sums have 139 to 142 terms, or of which terms vanish.
func TestLimitsOfSumsOnDesks(t *testing.T) {
	for _, n := range []int64{7, 8} {
		for terms := 39; terms <= 42; terms++ {
			d := impl.Desk{First: firstTerms(97, 5, n, 0, 100), Second: firstTerms(97, 5, n, 100, terms)}
			if next, output := checkLine(t, d, "plus"); (output == "error") != (terms > 40) || terms <= 40 && len(next.First.Terms) != 100+terms {
				t.Errorf("plus of 100 and %d terms: %q", terms, output)
			}
		}
	}
	x, y := firstTerms(7, 5, 8, 0, 140), firstTerms(7, 5, 8, 140, 1)
	y = modelElement(7, 5, 8, modelSumOf(y).plus(modelSum{modelLists[8][0]: 6}, 1))
	if next, output := checkLine(t, impl.Desk{First: x, Second: y}, "plus"); output == "error" || len(next.First.Terms) != 140 {
		t.Errorf("plus = %v, %q", next, output)
	}
}

// TestLimitsOfProductsOnDesks multiplies elements whose products have around 140 terms, in both orders.
func TestLimitsOfProductsOnDesks(t *testing.T) {
	factor := oneAndCup(97, 3)
	counts := map[int]int{}
	for with := 0; with <= 140; with += 28 {
		for without := 1; without <= 71 && with+without <= 140; without++ {
			x := cupped(97, 3, with, without)
			terms := len(modelElement(97, 3, 8, modelKnownProduct(factor, x)).Terms)
			if terms < 137 || terms > 144 {
				continue
			}
			counts[terms]++
			next, output := checkLine(t, impl.Desk{First: factor, Second: x}, "times")
			if (output == "error") != (terms > 140) || terms <= 140 && len(next.First.Terms) != terms {
				t.Errorf("times of %d terms: %d terms", terms, len(next.First.Terms))
			}
			checkLine(t, impl.Desk{First: x, Second: factor}, "times")
			checkLine(t, impl.Desk{First: factor, Second: x}, "commutator")
			checkLine(t, impl.Desk{First: x, Second: factor}, "commutator")
		}
	}
	if counts[140] == 0 || counts[141] == 0 {
		t.Errorf("no product is at the limit: %v", counts)
	}
	s := sampler(5)
	many := s.element(97, 3, 8, 40)
	cup := modelGenerators(factor)[3]
	few := s.element(97, 3, 8, 130)
	for _, d := range []impl.Desk{{First: many, Second: many}, {First: cup, Second: few}, {First: few, Second: cup}, {First: factor, Second: cupped(97, 3, 139, 1)}, {First: cupped(97, 3, 139, 1), Second: factor}} {
		if _, output := checkLine(t, d, "commutator"); output != "error" {
			t.Errorf("commutator: %q", output)
		}
	}
}

// TestLimitsOfPowersOnDesks has the greatest power, the next one, and powers with too many terms on the
// way.
func TestLimitsOfPowersOnDesks(t *testing.T) {
	for _, d := range []impl.Desk{deskOfSeven(t), modelDesk(2, 1, 8), {First: oneAndCup(97, 5), Second: modelDesk(97, 5, 8).Second}} {
		for k := 17; k <= 24; k++ {
			if _, output := checkLine(t, d, fmt.Sprint("power ", k)); (output == "error") != (k > 20) {
				t.Errorf("power %d: %q", k, output)
			}
		}
	}
	unit := modelDiagram("(((())))")
	s := modelSum{}
	for _, e := range modelLists[4][1:] {
		left, _ := impl.UnionDiagram(e, unit)
		right, _ := impl.UnionDiagram(unit, e)
		s[left], s[right] = 1, 1
	}
	d := impl.Desk{First: modelElement(3, 2, 8, s), Second: modelDesk(3, 2, 8).Second}
	for k := range 4 {
		if _, output := checkLine(t, d, fmt.Sprint("power ", k)); (output == "error") != (k > 1) {
			t.Errorf("power %d: %q", k, output)
		}
	}
}

// TestLimitsOfInversesOnDesks has elements of all sizes, with and without an inverse.
func TestLimitsOfInversesOnDesks(t *testing.T) {
	for n := int64(1); n <= 8; n++ {
		d := modelDesk(7, 3, n)
		if _, output := checkLine(t, d, "inverse"); (output == "error") != (n > 4) {
			t.Errorf("inverse of the unit of %d: %q", n, output)
		}
		swapped, _ := checkLine(t, d, "swap")
		checkWrong(t, swapped, "inverse")
		if n > 1 {
			cup, _ := checkLine(t, d, "cup 0")
			checkWrong(t, cup, "inverse")
		}
	}
	for _, d := range someDesks() {
		if d.First.Size > 4 {
			continue
		}
		next, output := checkLine(t, d, "inverse")
		if output == "error" {
			continue
		}
		one := modelOne(d.First)
		if !sameElement(modelMultiply(next.First, d.First), one) || !sameElement(modelMultiply(d.First, next.First), one) {
			t.Errorf("inverse of %v is %v", d.First, next.First)
		}
	}
}

// TestLimitsOfSizesOnDesks closes and includes desks of all sizes, with many terms and with none.
func TestLimitsOfSizesOnDesks(t *testing.T) {
	for n := int64(1); n <= 8; n++ {
		full := firstTerms(97, 5, n, 0, int(min(catalans[n], 140)))
		zero := impl.Element{Prime: 97, Loop: 5, Size: n}
		for _, d := range []impl.Desk{{First: full, Second: zero}, {First: zero, Second: full}, {First: full, Second: modelOne(zero)}, {First: zero, Second: zero}} {
			closed, output := checkLine(t, d, "close")
			if (output == "error") != (n == 1) || n > 1 && (closed.First.Size != n-1 || closed.Second.Size != n-1) {
				t.Errorf("close of the size %d: %q", n, output)
			}
			wide, output := checkLine(t, d, "include")
			if (output == "error") != (n == 8) || n < 8 && (wide.First.Size != n+1 || wide.Second.Size != n+1 || len(wide.Second.Terms) != len(d.Second.Terms)) {
				t.Errorf("include of the size %d: %q", n, output)
			}
		}
	}
}

// TestLimitsOfCellsOnDesks has numbers of open points in and out of their ranges.
func TestLimitsOfCellsOnDesks(t *testing.T) {
	for n := int64(1); n <= 8; n++ {
		d := modelDesk(7, 3, n)
		for k := int64(0); k <= 10; k++ {
			want := n > 6 || k > n || (n-k)%2 != 0
			for _, command := range []string{"halves", "gram", "rank"} {
				if _, output := checkLine(t, d, fmt.Sprint(command, " ", k)); (output == "error") != want {
					t.Errorf("%s %d of the size %d: %q", command, k, n, output)
				}
			}
		}
	}
}

// TestErrorsOfSystemsInLines gives words that are no systems, or systems of different numbers of arches.
func TestErrorsOfSystemsInLines(t *testing.T) {
	d := impl.NewDesk()
	for _, bad := range badSystems() {
		checkWrong(t, d, "turn "+bad)
		for _, good := range []string{"()", "()()", "(())", "()()()()()()"} {
			for _, command := range []string{"loops ", "order "} {
				checkWrong(t, d, command+bad+" "+good)
				checkWrong(t, d, command+good+" "+bad)
			}
		}
	}
	for _, pair := range []string{"() ()()", "(()) ()", "()()() ()()()()", "()()()()()() ()()()()()", "() ()()()()()()"} {
		checkWrong(t, d, "loops "+pair)
		checkWrong(t, d, "order "+pair)
	}
	for _, pair := range []string{"()() ()()", "(()) (())", "(())() ()()()", "(((()))) (())(())"} {
		checkWrong(t, d, "order "+pair)
		checkLine(t, d, "loops "+pair)
	}
}

// longText returns a text of so many bytes that the console takes, in so many lines, the last of which is
// long and wrong.
func longText(bytes int, lines int) string {
	text := strings.Repeat("show\n", lines-1)
	return text + strings.Repeat("x", bytes-len(text))
}

// TestLimitsOfBytes has texts of as many bytes as the console takes, and of more.
func TestLimitsOfBytes(t *testing.T) {
	for _, bytes := range []int{2998, 2999, 3000, 3001, 3002, 6000, 100000} {
		texts := []string{strings.Repeat("x", bytes), strings.Repeat(" ", bytes), strings.Repeat("\xff", bytes), strings.Repeat("\u00e9", bytes/2) + strings.Repeat("x", bytes%2), strings.Repeat("x", bytes-1) + "\n", "cup 0\n" + strings.Repeat("\n", 30) + strings.Repeat("x", bytes-36), longText(bytes, 40), longText(bytes, 20), strings.Repeat("x", bytes-5) + "\nshow"}
		for _, text := range texts {
			outputs := impl.Console(text)
			_, ok := impl.DeskAfter(text)
			if len(text) != bytes || ok != (bytes <= 3000) || (outputs != "") != ok {
				t.Errorf("a text of %d bytes: %q, %v", len(text), outputs, ok)
			}
			checkText(t, text)
		}
	}
}

// TestRightTextsAtTheLimits has texts of as many bytes as the console takes, of one less and one more, whose
// lines are all right.
func TestRightTextsAtTheLimits(t *testing.T) {
	ahead := "new 97 5 8\nfirst " + modelElementText(firstTerms(97, 5, 8, 700, 100)) + "\nsecond "
	x := firstTerms(97, 5, 8, 300, 1)
	for len(ahead+modelElementText(x)+"\ntrace\n") <= 2975 {
		x = firstTerms(97, 5, 8, 300, len(x.Terms)+1)
	}
	text := ahead + modelElementText(x) + "\ntrace\n"
	for _, bytes := range []int{2999, 3000, 3001} {
		whole := strings.Repeat("\n", bytes-len(text)) + text
		outputs := impl.Console(whole)
		if len(whole) != bytes || strings.Contains(outputs, "error") || strings.Count(outputs, "\n") != 4*b2i(bytes <= 3000) {
			t.Errorf("a text of %d bytes has outputs of %d bytes", len(whole), len(outputs))
		}
		checkText(t, whole)
	}
}

// TestLimitsOfLines has texts of as many lines as the console takes, and of more, with empty lines among
// them, and with and without a newline at the end.
func TestLimitsOfLines(t *testing.T) {
	for lines := 36; lines <= 44; lines++ {
		for _, line := range []string{"show", "cup 0", "x", " ", "trace"} {
			for empty := 0; empty < lines; empty += 5 {
				// The last line is not empty, so that it is one with or without its newline.
				text := strings.Repeat("\n", empty) + strings.Repeat(line+"\n", lines-empty)
				mixed := strings.Repeat(line+"\n", lines-empty-1) + strings.Repeat("\n", empty) + line + "\n"
				for _, whole := range []string{text, strings.TrimSuffix(text, "\n"), mixed, strings.TrimSuffix(mixed, "\n")} {
					outputs := impl.Console(whole)
					after, ok := impl.DeskAfter(whole)
					if ok != (lines <= 40) || strings.Count(outputs, "\n") != b2i(ok)*(lines-empty) || !ok && !isZeroDesk(after) {
						t.Errorf("%d lines, %d of them empty: %q, %v, %v", lines, empty, outputs, after, ok)
					}
					checkText(t, whole)
				}
			}
		}
		// A newline alone ends an empty line.
		after, ok := impl.DeskAfter(strings.Repeat("\n", lines))
		if ok != (lines <= 40) || ok && !sameDesk(after, modelDesk(7, 3, 3)) || !ok && !isZeroDesk(after) || impl.Console(strings.Repeat("\n", lines)) != "" {
			t.Errorf("%d empty lines: %v, %v", lines, after, ok)
		}
		for behind := 0; behind < 4; behind++ {
			text := strings.Repeat("show\n", lines-behind) + strings.Repeat("\n", behind)
			if outputs := impl.Console(text); (outputs == "") != (lines > 40) {
				t.Errorf("%d lines, the last %d of them empty: %q", lines, behind, outputs)
			}
			checkText(t, text)
		}
	}
	for _, text := range []string{strings.Repeat("\n", 3000), strings.Repeat("\n", 3001), strings.Repeat("x\n", 1500), strings.Repeat("\n", 100000)} {
		if after, ok := impl.DeskAfter(text); ok || !isZeroDesk(after) || impl.Console(text) != "" {
			t.Errorf("a text of %d bytes is taken", len(text))
		}
	}
	if d, ok := impl.DeskAfter(""); !ok || !sameDesk(d, modelDesk(7, 3, 3)) {
		t.Errorf("DeskAfter of no text = %v, %v", d, ok)
	}
}

// TestLongLines gives RunLine, which has no limit, lines that are much longer than texts.
func TestLongLines(t *testing.T) {
	d := impl.NewDesk()
	for _, line := range []string{strings.Repeat(" ", 100000), "show" + strings.Repeat(" ", 100000), strings.Repeat("show ", 20000), strings.Repeat("x", 1000000), "first " + strings.Repeat("1*((()))+", 20000), "turn " + strings.Repeat("()", 100000), "cup " + strings.Repeat("1", 100000), "cup " + strings.Repeat("0", 100000), strings.Repeat("\n", 100000)} {
		checkWrong(t, d, line)
	}
}

// sparedDesk returns a copy of d whose terms have spare capacity, with a mark in all of it.
func sparedDesk(d impl.Desk) impl.Desk {
	return impl.Desk{First: spared(d.First), Second: spared(d.Second)}
}

// isSparedDesk reports whether e, which sparedDesk returned for d, is as it was.
func isSparedDesk(d impl.Desk, e impl.Desk) bool {
	return isSpared(d.First, e.First) && isSpared(d.Second, e.Second)
}

// checkMemory checks that a line does not change a desk, nor the spare capacity behind it, and that the
// desk behind the line shares no memory with it; nor do its two elements.
func checkMemory(t *testing.T, d impl.Desk, line string) {
	t.Helper()
	e := sparedDesk(d)
	next, _ := impl.RunLine(e, line)
	if !isSparedDesk(d, e) {
		t.Fatalf("RunLine(%v, %q) changes the desk", d, line)
	}
	want := sparedDesk(next)
	scribble(next.First)
	if !sameElement(next.Second, want.Second) || !isSparedDesk(d, e) {
		t.Fatalf("behind RunLine(%v, %q), the first element shares memory", d, line)
	}
	scribble(next.Second)
	if !isSparedDesk(d, e) {
		t.Fatalf("behind RunLine(%v, %q), the second element shares memory", d, line)
	}
	next, _ = impl.RunLine(e, line)
	scribble(next.Second)
	if !sameElement(next.First, want.First) {
		t.Fatalf("behind RunLine(%v, %q), the elements share memory", d, line)
	}
	next, _ = impl.RunLine(e, line)
	scribble(e.First)
	scribble(e.Second)
	if !sameDesk(next, want) {
		t.Fatalf("RunLine(%v, %q) keeps memory of the desk", d, line)
	}
}

// TestMemoryOfDesks runs right and wrong lines of all commands on desks whose terms have spare capacity,
// and on desks whose two elements are the same memory.
func TestMemoryOfDesks(t *testing.T) {
	d := deskOfSeven(t)
	full := impl.Desk{First: firstTerms(97, 5, 8, 0, 140), Second: firstTerms(97, 5, 8, 100, 140)}
	zero := impl.Element{Prime: 7, Loop: 5, Size: 3}
	lines := append(goodLines(), "", "fly", "show ", "cup 9", "cup x", "first", "first x", "second 1", "power 21", "new 4 0 1", "spins 2", "order ()() ()()", "power 0", "power 1", "scale 1", "scale 0", "scale 7", "halves 2")
	for _, line := range lines {
		checkMemory(t, d, line)
		checkMemory(t, full, line)
		checkMemory(t, impl.Desk{First: d.First, Second: zero}, line)
		checkMemory(t, impl.Desk{First: zero, Second: d.Second}, line)
		checkMemory(t, impl.Desk{First: zero, Second: zero}, line)
		for _, x := range []impl.Element{d.First, full.First} {
			y := spared(x)
			next, _ := impl.RunLine(impl.Desk{First: y, Second: y}, line)
			want := sparedDesk(next)
			scribble(next.First)
			if !isSpared(x, y) || !sameElement(next.Second, want.Second) {
				t.Fatalf("RunLine(%q) on one element twice: the elements share memory", line)
			}
		}
	}
}

// TestMemoryOfNewDesks checks that each new desk, and each desk behind a text, has its own memory.
func TestMemoryOfNewDesks(t *testing.T) {
	for range 2 {
		d := impl.NewDesk()
		if !sameDesk(d, modelDesk(7, 3, 3)) {
			t.Fatalf("NewDesk = %v", d)
		}
		scribble(d.First)
		scribble(d.Second)
		for _, text := range []string{"", "reset", "cup 0\nswap\nunit", "new 2 1 1", "swap"} {
			_, want, _ := modelConsole(text)
			after, ok := impl.DeskAfter(text)
			if !ok || !sameDesk(after, want) {
				t.Fatalf("DeskAfter(%q) = %v, %v", text, after, ok)
			}
			scribble(after.First)
			if !sameElement(after.Second, want.Second) {
				t.Fatalf("DeskAfter(%q): the elements share memory", text)
			}
			scribble(after.Second)
		}
	}
}

// TestDesksOfGreatNumbers checks that desks with numbers at the ends of int64 are none.
func TestDesksOfGreatNumbers(t *testing.T) {
	for _, k := range []int64{math.MinInt64, math.MaxInt64, -1} {
		for _, x := range []impl.Element{{Prime: k, Loop: 0, Size: 1}, {Prime: 7, Loop: k, Size: 1}, {Prime: 7, Loop: 0, Size: k}, {Prime: k, Loop: k, Size: k}} {
			d := impl.Desk{First: x, Second: x}
			if next, output := impl.RunLine(d, "show"); impl.IsDesk(d) || !isZeroDesk(next) || output != "" {
				t.Errorf("RunLine(%v) = %v, %q", d, next, output)
			}
		}
	}
}
