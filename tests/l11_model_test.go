package tests

import (
	"slices"
	"strconv"
	"strings"
	"testing"

	"loop.example/g01251/impl"
)

// This file holds a second, slow reading of chapter 11, against which the package is tested. It finds
// what lines do with the second readings of the chapters before, but for inverses, which it takes from
// the package: the tests of chapter 2 look at them.

// modelCut cuts a line at each blank.
func modelCut(line string) []string {
	words := []string{""}
	for i := range len(line) {
		if line[i] == 32 {
			words = append(words, "")
			continue
		}
		words[len(words)-1] += line[i : i+1]
	}
	return words
}

// modelForm returns the command of a line with a blank and a dash for each word behind it.
func modelForm(words []string) string {
	return words[0] + strings.Repeat(" -", len(words)-1)
}

// modelCount returns the number that a word is, and whether it is one.
func modelCount(word string) (int64, bool) {
	if word == "" || len(word) > 9 || word[0] == '0' && len(word) > 1 {
		return 0, false
	}
	number := int64(0)
	for i := range len(word) {
		digit := strings.Index("0123456789", word[i:i+1])
		if digit < 0 {
			return 0, false
		}
		number = 10*number + int64(digit)
	}
	return number, true
}

// modelTexts has, for each size, the numbers of all diagrams by their texts.
var modelTexts = func() []map[string]int {
	texts := make([]map[string]int, len(modelLists))
	for n, list := range modelLists {
		texts[n] = map[string]int{}
		for k, d := range list {
			texts[n][modelText(d)] = k
		}
	}
	return texts
}()

// modelParsed returns the element like x with a text, and whether there is one.
func modelParsed(x impl.Element, text string) (impl.Element, bool) {
	parsed := impl.Element{Prime: x.Prime, Loop: x.Loop, Size: x.Size}
	if text == "0" {
		return parsed, true
	}
	last := -1
	for _, part := range strings.Split(text, "+") {
		digits, letters, _ := strings.Cut(part, "*")
		factor, isNumber := modelCount(digits)
		k, known := modelTexts[x.Size][letters]
		if !isNumber || factor < 1 || factor >= x.Prime || !known || k <= last {
			return impl.Element{}, false
		}
		last = k
		parsed.Terms = append(parsed.Terms, impl.Term{Diagram: modelLists[x.Size][k], Factor: factor})
	}
	return parsed, len(parsed.Terms) <= 140
}

// modelFitting returns the element like x that a sum stands for, and whether it has few enough terms.
func modelFitting(x impl.Element, s modelSum) (impl.Element, bool) {
	y := modelElement(x.Prime, x.Loop, x.Size, s)
	return y, len(y.Terms) <= 140
}

// modelTimesOnDesk returns the product of x and y, and whether it has few enough terms.
func modelTimesOnDesk(x impl.Element, y impl.Element) (impl.Element, bool) {
	return modelFitting(x, modelKnownProduct(x, y))
}

// modelResized returns the element of another size that arises if to leads each diagram of x to one, and
// a number of loops.
func modelResized(x impl.Element, n int64, to func(d impl.Diagram) (impl.Diagram, int64)) impl.Element {
	total := modelSum{}
	for _, term := range x.Terms {
		d, loops := to(term.Diagram)
		total[d] += term.Factor * modelLoops(x, loops)
	}
	return modelElement(x.Prime, x.Loop, n, total)
}

// modelClosed returns the partial closure of x.
func modelClosed(x impl.Element) impl.Element {
	return modelResized(x, x.Size-1, modelCloseLast)
}

// modelIncluded returns the inclusion of x.
func modelIncluded(x impl.Element) impl.Element {
	return modelResized(x, x.Size+1, func(d impl.Diagram) (impl.Diagram, int64) { return modelInclude(d), 0 })
}

// modelDesk returns the desk for a prime, a loop and a size with the unit and no terms.
func modelDesk(p int64, c int64, n int64) impl.Desk {
	zero := impl.Element{Prime: p, Loop: c, Size: n}
	return impl.Desk{First: modelOne(zero), Second: zero}
}

// modelRun returns the desk behind a line, and its output.
func modelRun(d impl.Desk, line string) (impl.Desk, string) {
	for command, place := range map[string]*impl.Element{"first ": &d.First, "second ": &d.Second} {
		if text, isIt := strings.CutPrefix(line, command); isIt {
			x, ok := modelParsed(d.First, text)
			if !ok {
				return d, "error"
			}
			*place = x
			return d, text
		}
	}
	words := modelCut(line)
	if words[0] == "reset" && len(words) == 1 {
		return modelDesk(7, 3, 3), "ok"
	}
	if next, ok := modelWhole(d, words); ok {
		return next, modelElementText(next.First)
	}
	if x, ok := modelChanged(d, words); ok {
		return impl.Desk{First: x, Second: d.Second}, modelElementText(x)
	}
	if output, ok := modelTold(d, words); ok {
		return d, output
	}
	return d, "error"
}

// modelWhole returns the desk behind a line that may change both elements, and whether it is such a line.
func modelWhole(d impl.Desk, words []string) (impl.Desk, bool) {
	n := d.First.Size
	switch modelForm(words) {
	case "new - - -":
		p, isPrime := modelCount(words[1])
		c, isLoop := modelCount(words[2])
		size, isSize := modelCount(words[3])
		if !isPrime || !isLoop || !isSize || !slices.Contains(primes, p) || c >= p || size < 1 || size > 8 {
			return d, false
		}
		return modelDesk(p, c, size), true
	case "swap":
		return impl.Desk{First: d.Second, Second: d.First}, true
	case "close":
		if n > 1 {
			return impl.Desk{First: modelClosed(d.First), Second: modelClosed(d.Second)}, true
		}
	case "include":
		if n < 8 {
			return impl.Desk{First: modelIncluded(d.First), Second: modelIncluded(d.Second)}, true
		}
	}
	return d, false
}

// modelChanged returns what a line makes of the first element, and whether it is one that changes it.
func modelChanged(d impl.Desk, words []string) (impl.Element, bool) {
	x, y := d.First, d.Second
	switch modelForm(words) {
	case "cup -", "scale -", "power -":
		k, ok := modelCount(words[1])
		if !ok {
			return x, false
		}
		return modelNumbered(x, words[0], k)
	case "unit":
		return modelOne(x), true
	case "project":
		list := modelProjections(x.Prime, x.Loop, 5)
		if x.Size <= int64(len(list)) {
			return list[x.Size-1], true
		}
	case "plus":
		return modelFitting(x, modelSumOf(x).plus(modelSumOf(y), 1))
	case "times":
		return modelTimesOnDesk(x, y)
	case "commutator":
		left, fits := modelTimesOnDesk(x, y)
		right, fit := modelTimesOnDesk(y, x)
		if fits && fit {
			return modelFitting(x, modelSumOf(left).plus(modelSumOf(right), -1))
		}
	case "flip":
		return modelResized(x, x.Size, func(e impl.Diagram) (impl.Diagram, int64) { return modelFlip(e), 0 }), true
	case "inverse":
		inverse, code := impl.InverseElement(x)
		return inverse, code == impl.ErrNone
	}
	return x, false
}

// modelNumbered returns what a command with a number makes of x, and whether it does.
func modelNumbered(x impl.Element, command string, k int64) (impl.Element, bool) {
	switch command {
	case "cup":
		if k > x.Size-2 {
			return x, false
		}
		return modelGenerators(x)[k], true
	case "scale":
		if k > 1000000 {
			return x, false
		}
		return modelFitting(x, modelSum{}.plus(modelSumOf(x), k))
	}
	if k > 20 {
		return x, false
	}
	power := modelOne(x)
	for range k {
		next, fits := modelTimesOnDesk(power, x)
		if !fits {
			return x, false
		}
		power = next
	}
	return power, true
}

// modelTold returns the output of a line that changes nothing, and whether it is such a line.
func modelTold(d impl.Desk, words []string) (string, bool) {
	x := d.First
	switch modelForm(words) {
	case "show":
		return modelElementText(x), true
	case "other":
		return modelElementText(d.Second), true
	case "trace":
		return strconv.Itoa(int(modelTrace(x))), true
	case "central":
		return map[bool]string{false: "no", true: "yes"}[modelIsCentral(x)], true
	case "zero":
		return strconv.Itoa(int(modelZero(x.Prime, x.Loop))), true
	case "halves -", "gram -", "rank -", "spins -":
		k, ok := modelCount(words[1])
		if !ok {
			return "", false
		}
		return modelToldOf(x, words[0], k)
	case "turn -":
		if modelIsSystem(words[1]) {
			return modelTurn(words[1]), true
		}
	case "loops - -", "order - -":
		a, b := words[1], words[2]
		if !modelIsSystem(a) || !modelIsSystem(b) || len(a) != len(b) {
			return "", false
		}
		if words[0] == "loops" {
			return strconv.Itoa(int(modelCurves(a, b))), true
		}
		order, ok := modelOrder(a, b)
		return modelListed(order), ok
	}
	return "", false
}

// modelListed returns numbers with blanks between them.
func modelListed(list []int64) string {
	text := ""
	for _, number := range list {
		text += " " + strconv.Itoa(int(number))
	}
	return strings.TrimPrefix(text, " ")
}

// modelToldOf returns the output of a command with a number that changes nothing, and whether there is
// one.
func modelToldOf(x impl.Element, command string, k int64) (string, bool) {
	p, c, n := x.Prime, x.Loop, x.Size
	if command == "spins" {
		if k < 1 || k >= p || n > 4 {
			return "", false
		}
		loop, _ := modelSpinLoop(p, k)
		return strconv.Itoa(modelRank(p, modelTableOfElement(k, x))), loop == c
	}
	if n > 6 || k > n || (n-k)%2 != 0 {
		return "", false
	}
	list := modelHalves[n][k]
	if command == "halves" {
		return strings.Join(list, " "), true
	}
	table := [][]int64{}
	for _, a := range list {
		row := []int64{}
		for _, b := range list {
			good, loops := modelPair(a, b)
			row = append(row, int64(b2i(good))*modelPowerOf(p, c, loops))
		}
		table = append(table, row)
	}
	if command == "gram" {
		return strconv.Itoa(int(modelDeterminant(p, table))), true
	}
	return strconv.Itoa(modelRank(p, table)), true
}

// modelConsole returns the outputs of a text, the desk behind it, and whether it is taken. It goes
// through the bytes.
func modelConsole(text string) (string, impl.Desk, bool) {
	if len(text) > 3000 {
		return "", impl.Desk{}, false
	}
	outputs, d := "", modelDesk(7, 3, 3)
	line, lines := "", 0
	finish := func() {
		lines++
		if line != "" {
			next, output := modelRun(d, line)
			d, outputs = next, outputs+output+"\n"
		}
		line = ""
	}
	for i := range len(text) {
		if text[i] == 10 {
			finish()
		} else {
			line += text[i : i+1]
		}
	}
	if line != "" {
		finish()
	}
	if lines > 40 {
		return "", impl.Desk{}, false
	}
	return outputs, d, true
}

// sameDesk reports whether two desks are equal.
func sameDesk(d impl.Desk, e impl.Desk) bool {
	return sameElement(d.First, e.First) && sameElement(d.Second, e.Second)
}

// isZeroDesk reports whether d is the zero value.
func isZeroDesk(d impl.Desk) bool {
	return sameDesk(d, impl.Desk{})
}

// checkLine compares what a line does with the second reading, and returns the desk behind it and the
// output.
func checkLine(t *testing.T, d impl.Desk, line string) (impl.Desk, string) {
	t.Helper()
	want, output := modelRun(d, line)
	next, got := impl.RunLine(d, line)
	if got != output || !sameDesk(next, want) {
		t.Fatalf("RunLine(%v, %q) = %v, %q, not %v, %q", d, line, next, got, want, output)
	}
	if !impl.IsDesk(next) {
		t.Fatalf("RunLine(%v, %q) = %v, which is no desk", d, line, next)
	}
	if output == "error" && !sameDesk(next, d) {
		t.Fatalf("RunLine(%v, %q) changes the desk to %v", d, line, next)
	}
	return next, got
}

// checkWrong checks that a line has the output error, and changes nothing.
func checkWrong(t *testing.T, d impl.Desk, line string) {
	t.Helper()
	if next, output := impl.RunLine(d, line); output != "error" || !sameDesk(next, d) {
		t.Errorf("RunLine(%v, %q) = %v, %q", d, line, next, output)
	}
}

// checkText compares Console and DeskAfter with the second reading.
func checkText(t *testing.T, text string) {
	t.Helper()
	outputs, d, ok := modelConsole(text)
	if got := impl.Console(text); got != outputs {
		t.Fatalf("Console(%q) = %q, not %q", text, got, outputs)
	}
	if after, taken := impl.DeskAfter(text); taken != ok || !sameDesk(after, d) {
		t.Fatalf("DeskAfter(%q) = %v, %v, not %v, %v", text, after, taken, d, ok)
	}
}

// shortCommands, numberCommands and wordCommands are the commands without words behind them, those with
// one number, and those with other words, with how many.
var (
	shortCommands  = []string{"unit", "project", "swap", "plus", "times", "commutator", "flip", "inverse", "close", "include", "show", "other", "trace", "central", "zero", "reset"}
	numberCommands = []string{"cup", "scale", "power", "halves", "gram", "rank", "spins"}
	wordCommands   = map[string]int{"new": 3, "first": 1, "second": 1, "loops": 2, "order": 2, "turn": 1}
)

// goodLines returns, for each command, a line that is right on a desk whose elements have the size 3,
// the prime 7 and the loop 5, and whose first element has an inverse. (The numbers q with this loop
// value are 1.)
func goodLines() []string {
	return append(slices.Clone(shortCommands),
		"cup 1", "scale 3", "power 2", "halves 1", "gram 1", "rank 1", "spins 1",
		"new 5 2 2", "first 2*(()())", "second 3*()(())+1*()()()", "loops ()() (())", "order ()() (())", "turn (())")
}

// deskOfSeven returns a desk on which the lines of goodLines are right.
func deskOfSeven(t *testing.T) impl.Desk {
	t.Helper()
	d := modelDesk(7, 5, 3)
	x, isFirst := modelParsed(d.First, "2*((()))+1*(()())+3*(())()")
	y, isSecond := modelParsed(d.First, "4*()(())+6*()()()")
	if !isFirst || !isSecond {
		t.Fatal("the elements are none")
	}
	return impl.Desk{First: x, Second: y}
}

// someDesks returns desks of many kinds.
func someDesks() []impl.Desk {
	desks := []impl.Desk{modelDesk(7, 3, 3)}
	for _, kind := range someKinds() {
		p, c, n := kind[0], kind[1], kind[2]
		s := sampler(p*1000 + c*100 + n)
		zero := impl.Element{Prime: p, Loop: c, Size: n}
		desks = append(desks, impl.Desk{First: zero, Second: zero}, modelDesk(p, c, n),
			impl.Desk{First: s.element(p, c, n, 2), Second: modelOne(zero)},
			impl.Desk{First: s.element(p, c, n, 4), Second: s.element(p, c, n, 3)})
	}
	return desks
}
