package tests

import (
	"fmt"
	"strconv"
	"strings"
	"testing"

	"loop.example/g01251/impl"
)

// Tests of chapter 11: what lines do, and what the console makes of texts.

func TestLimitsOfTheConsole(t *testing.T) {
	if impl.MaxConsole != 3000 || impl.MaxLines != 40 {
		t.Errorf("limits are %d and %d", impl.MaxConsole, impl.MaxLines)
	}
}

func TestNewDesk(t *testing.T) {
	unit := impl.Diagram{Size: 3, Mate: [16]byte{3, 4, 5, 0, 1, 2}}
	d := impl.NewDesk()
	if d.First.Prime != 7 || d.First.Loop != 3 || d.First.Size != 3 || len(d.First.Terms) != 1 || d.First.Terms[0] != (impl.Term{Diagram: unit, Factor: 1}) {
		t.Errorf("NewDesk has %v", d.First)
	}
	if !sameElement(d.Second, impl.Element{Prime: 7, Loop: 3, Size: 3}) || !impl.IsDesk(d) {
		t.Errorf("NewDesk has %v", d.Second)
	}
}

// TestIsDesk puts elements of all kinds together, and such with structs that are no elements.
func TestIsDesk(t *testing.T) {
	kinds := someKinds()
	for _, a := range kinds {
		for _, b := range kinds {
			zero, other := impl.Element{Prime: a[0], Loop: a[1], Size: a[2]}, impl.Element{Prime: b[0], Loop: b[1], Size: b[2]}
			for _, d := range []impl.Desk{{First: zero, Second: other}, {First: modelOne(zero), Second: other}, {First: zero, Second: modelOne(other)}, {First: modelOne(zero), Second: modelOne(other)}} {
				if impl.IsDesk(d) != (a == b) {
					t.Fatalf("IsDesk(%v) = %v", d, a != b)
				}
			}
		}
	}
	for _, d := range someDesks() {
		if !impl.IsDesk(d) {
			t.Errorf("IsDesk(%v) = false", d)
		}
	}
	for _, n := range []int64{7, 8} {
		for _, terms := range []int{139, 140, 141} {
			x, y := firstTerms(97, 5, n, 0, terms), firstTerms(97, 5, n, 200, 140)
			if want := terms <= 140; impl.IsDesk(impl.Desk{First: x, Second: y}) != want || impl.IsDesk(impl.Desk{First: y, Second: x}) != want {
				t.Errorf("IsDesk of %d terms is wrong", terms)
			}
		}
	}
}

// scripts are lines, one after the other on the new desk, with their outputs, found by hand.
var scripts = map[string][][2]string{
	"what is told of the new desk": {
		{"show", "1*((()))"}, {"other", "0"}, {"trace", "6"}, {"central", "yes"}, {"zero", "3"},
		{"halves 1", "()| |()"}, {"halves 3", "|||"}, {"gram 1", "1"}, {"gram 3", "1"}, {"rank 1", "2"}, {"rank 3", "1"},
		{"loops ()() (())", "1"}, {"loops ()() ()()", "2"}, {"order ()() (())", "0 1 2 3"}, {"order (()) ()()", "0 3 2 1"}, {"order () ()", "0 1"}, {"turn (())", "()()"}, {"turn ()()", "(())"}, {"turn (())()", "((()))"},
		// The loop value for 7 is never 3.
		{"spins 1", "error"}, {"spins 2", "error"}, {"spins 3", "error"}, {"spins 6", "error"}, {"show", "1*((()))"}, {"other", "0"},
	},
	"products": {
		{"cup 0", "1*()()()"}, {"trace", "2"}, {"central", "no"}, {"swap", "0"}, {"show", "0"}, {"other", "1*()()()"}, {"cup 1", "1*(()())"},
		{"times", "1*(())()"}, {"trace", "3"}, {"plus", "1*(())()+1*()()()"}, {"other", "1*()()()"}, {"scale 10", "3*(())()+3*()()()"}, {"flip", "3*()(())+3*()()()"},
		{"power 2", "1*()(())+1*()()()"}, {"power 1", "1*()(())+1*()()()"}, {"commutator", "4*()(())+1*()()()"}, {"trace", "0"}, {"other", "1*()()()"}, {"scale 0", "0"}, {"power 0", "1*((()))"},
	},
	"inverses, and other sizes": {
		{"cup 0", "1*()()()"}, {"inverse", "error"}, {"swap", "0"}, {"inverse", "error"}, {"unit", "1*((()))"}, {"plus", "1*((()))+1*()()()"}, {"inverse", "1*((()))+5*()()()"}, {"inverse", "1*((()))+1*()()()"}, {"inverse", "1*((()))+5*()()()"},
		{"close", "3*(())+1*()()"}, {"other", "3*()()"}, {"trace", "2"}, {"include", "3*((()))+1*()()()"}, {"other", "3*()()()"},
		{"close", "2*(())+3*()()"}, {"close", "2*()"}, {"other", "2*()"}, {"trace", "6"}, {"close", "error"}, {"show", "2*()"}, {"other", "2*()"}, {"cup 0", "error"}, {"unit", "1*()"},
	},
	"projections": {
		{"project", "1*((()))+4*(()())+1*(())()+1*()(())+4*()()()"}, {"trace", "0"}, {"central", "yes"}, {"power 20", "1*((()))+4*(()())+1*(())()+1*()(())+4*()()()"},
		{"swap", "0"}, {"cup 1", "1*(()())"}, {"times", "0"}, {"include", "0"}, {"project", "error"}, {"other", "1*(((())))+4*(()()())+1*(()())()+1*()(()())+4*()(())()"}, {"show", "0"},
		{"new 7 2 2", "1*(())"}, {"project", "1*(())+3*()()"}, {"trace", "3"},
		{"new 7 1 2", "1*(())"}, {"project", "1*(())+6*()()"}, {"new 7 1 3", "1*((()))"}, {"project", "error"}, {"show", "1*((()))"}, {"zero", "2"}, {"new 7 0 1", "1*()"}, {"project", "1*()"}, {"new 7 0 2", "1*(())"}, {"zero", "1"}, {"project", "error"},
	},
	"texts of elements": {
		{"first 2*(()())+6*()(())", "2*(()())+6*()(())"}, {"other", "0"}, {"second 1*((()))", "1*((()))"}, {"show", "2*(()())+6*()(())"}, {"other", "1*((()))"}, {"plus", "1*((()))+2*(()())+6*()(())"},
		{"second 0", "0"}, {"other", "0"}, {"show", "1*((()))+2*(()())+6*()(())"}, {"first 0", "0"}, {"show", "0"}, {"trace", "0"}, {"central", "yes"}, {"second 6*()()()", "6*()()()"}, {"plus", "6*()()()"}, {"plus", "5*()()()"}, {"plus", "4*()()()"}, {"times", "2*()()()"},
		{"reset", "ok"}, {"show", "1*((()))"}, {"other", "0"},
	},
	"new desks": {
		{"second 3*()()()", "3*()()()"}, {"new 5 2 2", "1*(())"}, {"other", "0"}, {"trace", "4"}, {"cup 0", "1*()()"}, {"power 2", "2*()()"}, {"close", "2*()"}, {"zero", "4"},
		{"new 2 1 1", "1*()"}, {"trace", "1"}, {"zero", "2"}, {"scale 2", "0"}, {"new 97 96 8", "1*(((((((())))))))"}, {"trace", "1"}, {"cup 6", "1*((((((()()))))))"}, {"trace", "96"}, {"include", "error"}, {"close", "1*((((((()))))))"}, {"include", "1*(((((((())))))))"},
		{"reset", "ok"}, {"show", "1*((()))"}, {"other", "0"}, {"zero", "3"}, {"halves 1", "()| |()"},
	},
	"spins": {
		{"new 7 5 2", "1*(())"}, {"spins 1", "4"}, {"spins 2", "error"}, {"spins 0", "error"}, {"spins 7", "error"}, {"spins 8", "error"}, {"cup 0", "1*()()"}, {"spins 1", "1"}, {"show", "1*()()"}, {"scale 0", "0"}, {"spins 1", "0"},
		{"new 7 6 4", "1*(((())))"}, {"spins 3", "16"}, {"spins 5", "16"}, {"spins 4", "error"}, {"cup 2", "1*((()()))"}, {"spins 3", "4"}, {"include", "1*((()()()))"}, {"spins 3", "error"}, {"close", "6*((()()))"}, {"spins 5", "4"},
		{"new 2 0 1", "1*()"}, {"spins 1", "2"}, {"new 2 1 1", "1*()"}, {"spins 1", "error"},
	},
	"lists": {
		{"new 7 3 4", "1*(((())))"}, {"halves 0", "(()) ()()"}, {"halves 2", "()|| |()| ||()"}, {"halves 4", "||||"}, {"gram 0", "2"}, {"rank 0", "2"}, {"gram 2", "0"}, {"rank 2", "2"},
		{"order ()()() (()())", "0 1 2 3 4 5"}, {"order ()()() (())()", "error"}, {"order (())() ()(())", "0 3 4 5 2 1"}, {"order ()()()()()() (()()()()())", "0 1 2 3 4 5 6 7 8 9 10 11"}, {"loops ()()()()()() ((((()))))()", "4"}, {"loops ()()()()() (((((())))))", "error"}, {"loops ()()()()()() (((((())))))", "3"}, {"loops (((((()))))) (((((())))))", "6"},
		{"new 5 0 6", "1*(((((())))))"}, {"halves 6", "||||||"}, {"halves 4", "()|||| |()||| ||()|| |||()| ||||()"}, {"gram 0", "0"}, {"rank 0", "0"}, {"gram 6", "1"},
	},
}

func TestScripts(t *testing.T) {
	for name, script := range scripts {
		d := impl.NewDesk()
		text, outputs := "", ""
		for i, pair := range script {
			next, output := impl.RunLine(d, pair[0])
			if output != pair[1] || !impl.IsDesk(next) || output == "error" && !sameDesk(next, d) {
				t.Errorf("%s: line %d, %q, has the output %q, not %q", name, i, pair[0], output, pair[1])
			}
			checkLine(t, d, pair[0])
			d = next
			text += pair[0] + "\n"
			outputs += pair[1] + "\n"
		}
		if got := impl.Console(text); got != outputs {
			t.Errorf("%s: Console = %q", name, got)
		}
		if after, ok := impl.DeskAfter(text); !ok || !sameDesk(after, d) {
			t.Errorf("%s: DeskAfter = %v, %v", name, after, ok)
		}
		checkText(t, text)
	}
}

// TestGoodLines checks that each command does something on a desk, so that the tests below which take
// words away, or add some, do not meet lines that are wrong for another reason.
func TestGoodLines(t *testing.T) {
	d := deskOfSeven(t)
	for _, line := range goodLines() {
		if _, output := checkLine(t, d, line); output == "error" {
			t.Errorf("RunLine(%v, %q) = error", d, line)
		}
	}
	if count := len(goodLines()); count != len(shortCommands)+len(numberCommands)+len(wordCommands) || count != 29 {
		t.Errorf("there are %d commands", count)
	}
}

// TestShortLinesOnManyDesks compares all commands without words behind them on desks of all kinds.
func TestShortLinesOnManyDesks(t *testing.T) {
	for _, d := range someDesks() {
		for _, command := range shortCommands {
			checkLine(t, d, command)
		}
		swapped, _ := checkLine(t, d, "swap")
		if again, _ := checkLine(t, swapped, "swap"); !sameDesk(again, d) {
			t.Fatalf("swap twice makes %v of %v", again, d)
		}
	}
}

// TestNumbersOnManyDesks compares all commands with one number on desks of all kinds, for numbers in and
// out of their ranges.
func TestNumbersOnManyDesks(t *testing.T) {
	for _, d := range someDesks() {
		for _, command := range numberCommands {
			for k := range 11 {
				if command == "power" && k > 4 && d.First.Size > 4 {
					continue
				}
				checkLine(t, d, fmt.Sprint(command, " ", k))
			}
			for _, k := range []int64{d.First.Prime - 1, d.First.Prime, d.First.Prime + 1, 100, 1000000, 999999999, 1000000000} {
				if command == "power" && k > 4 && k <= 20 && d.First.Size > 4 {
					continue
				}
				checkLine(t, d, fmt.Sprint(command, " ", k))
			}
		}
	}
}

// TestSpinsOnDesks goes through all numbers q of some primes, for all loops of them.
func TestSpinsOnDesks(t *testing.T) {
	for _, p := range []int64{2, 3, 5, 7, 11} {
		for c := range p {
			for n := int64(1); n <= 5; n++ {
				s := sampler(p*100 + c*10 + n)
				for _, x := range []impl.Element{modelDesk(p, c, n).First, s.element(p, c, n, 3)} {
					for q := range p + 2 {
						checkLine(t, impl.Desk{First: x, Second: modelDesk(p, c, n).Second}, fmt.Sprint("spins ", q))
					}
				}
			}
		}
	}
}

// TestHalvesAreLists checks that no list of half diagrams has nothing in it.
func TestHalvesAreLists(t *testing.T) {
	for n := int64(1); n <= 8; n++ {
		for k := range int64(12) {
			_, output := impl.RunLine(modelDesk(7, 3, n), fmt.Sprint("halves ", k))
			if n > 6 || k > n || (n-k)%2 != 0 {
				if output != "error" {
					t.Errorf("halves %d of %d points: %q", k, n, output)
				}
				continue
			}
			if parts := strings.Split(output, " "); len(parts) != len(modelHalves[n][k]) || !modelIsHalf(parts[0]) {
				t.Errorf("halves %d of %d points: %q", k, n, output)
			}
		}
	}
}

// TestNewDesksOfAllKinds goes through all primes with their loops, and what is just out of the ranges, on
// a desk with other elements.
func TestNewDesksOfAllKinds(t *testing.T) {
	d := deskOfSeven(t)
	for p := range int64(104) {
		for _, c := range []int64{0, 1, 2, 3, p / 2, p - 1, p, p + 1} {
			for _, n := range []int64{0, 1, 2, 5, 8, 9, 10} {
				checkLine(t, d, fmt.Sprintf("new %d %d %d", p, c, n))
			}
		}
	}
	for _, p := range []int64{997, 9409, 1 << 20, 999999937} {
		checkWrong(t, d, fmt.Sprintf("new %d 0 3", p))
	}
}

// TestSystemsOnDesks compares the lines with systems, for all systems and pairs.
func TestSystemsOnDesks(t *testing.T) {
	d := impl.NewDesk()
	forPairsOfSystems(6, func(a string, b string) {
		checkLine(t, d, "loops "+a+" "+b)
		checkLine(t, d, "order "+a+" "+b)
	})
	for m, list := range modelSystems {
		for _, a := range list {
			checkLine(t, d, "turn "+a)
			for _, b := range []string{list[0], list[len(list)-1], "()", modelSystems[min(m+1, 6)][0]} {
				checkLine(t, d, "loops "+a+" "+b)
				checkLine(t, d, "order "+a+" "+b)
			}
		}
	}
}

// TestTextsOnDesks puts the texts of elements of all kinds on a desk of each kind, whether they are alike
// or not.
func TestTextsOnDesks(t *testing.T) {
	for _, kind := range someKinds() {
		d := modelDesk(kind[0], kind[1], kind[2])
		for _, other := range someKinds() {
			s := sampler(other[0] + other[1] + other[2])
			for _, terms := range []int64{0, 1, 3} {
				text := modelElementText(s.element(other[0], other[1], other[2], terms))
				checkLine(t, d, "first "+text)
				checkLine(t, d, "second "+text)
			}
		}
	}
}

// line picks a line for a desk; about one of six is wrong for one reason or another.
func (s *sampler) line(d impl.Desk) string {
	p, c, n := d.First.Prime, d.First.Loop, d.First.Size
	line := ""
	switch kind := s.below(12); {
	case kind < 5:
		line = shortCommands[s.below(int64(len(shortCommands)))]
		if line == "reset" && s.below(3) > 0 {
			line = "plus"
		}
	case kind < 8:
		line = numberCommands[s.below(int64(len(numberCommands)))] + " " + strconv.Itoa(int(s.below(n+1)))
	case kind < 10:
		line = []string{"first ", "second "}[s.below(2)] + modelElementText(s.element(p, c, n, s.below(4)))
	case kind < 11:
		systems := modelSystems[1+s.below(4)]
		a, b := systems[s.below(int64(len(systems)))], systems[s.below(int64(len(systems)))]
		line = []string{"loops " + a + " " + b, "order " + a + " " + b, "turn " + a}[s.below(3)]
	default:
		prime := primes[s.below(int64(len(primes)))]
		line = fmt.Sprintf("new %d %d %d", prime, s.below(prime), 1+s.below(8))
	}
	return s.spoiled(line)
}

// spoiled changes one line of eight at some place.
func (s *sampler) spoiled(line string) string {
	if s.below(8) > 0 {
		return line
	}
	place := s.below(int64(len(line) + 1))
	switch s.below(3) {
	case 0:
		letters := " 0\r\t+-()x"
		k := s.below(int64(len(letters)))
		return line[:place] + letters[k:k+1] + line[place:]
	case 1:
		return line[:place]
	default:
		return line[place:] + line[:place]
	}
}

// TestSampledScripts goes from desk to desk by lines that are picked.
func TestSampledScripts(t *testing.T) {
	s := sampler(11)
	outputs := map[bool]int{}
	for range 1000 {
		d := impl.NewDesk()
		for range 40 {
			line := s.line(d)
			next, output := checkLine(t, d, line)
			d = next
			outputs[output == "error"]++
		}
	}
	if outputs[true] < 4000 || outputs[false] < 25000 {
		t.Errorf("%d lines are wrong, and %d are not", outputs[true], outputs[false])
	}
}

// TestConsoleJoinsOutputs compares the console with its lines, one by one, with empty lines between them,
// and with and without a newline at the end.
func TestConsoleJoinsOutputs(t *testing.T) {
	s := sampler(12)
	for range 150 {
		d := impl.NewDesk()
		text, outputs := "", ""
		for range 1 + s.below(20) {
			for range s.below(2) {
				text += "\n"
			}
			line := strings.ReplaceAll(s.line(d), "\n", "")
			if line == "" {
				continue
			}
			next, output := impl.RunLine(d, line)
			d = next
			text += line + "\n"
			outputs += output + "\n"
		}
		if len(text) > 3000 {
			continue
		}
		for _, whole := range []string{text, strings.TrimRight(text, "\n"), "\n" + text, text + "\n"} {
			if whole == "" {
				continue
			}
			if strings.Count(whole, "\n") > 39 {
				continue
			}
			if got := impl.Console(whole); got != outputs {
				t.Fatalf("Console(%q) = %q, not %q", whole, got, outputs)
			}
			if after, ok := impl.DeskAfter(whole); !ok || !sameDesk(after, d) {
				t.Fatalf("DeskAfter(%q) = %v, %v, not %v", whole, after, ok, d)
			}
			checkText(t, whole)
		}
	}
}

func TestTextsByHand(t *testing.T) {
	for _, row := range [][2]string{
		{"", ""}, {"\n", ""}, {"\n\n\n", ""}, {"trace", "6\n"}, {"trace\n", "6\n"}, {"trace\n\n\n\n", "6\n"}, {"\n\ntrace", "6\n"}, {"\ntrace\n\n\ntrace\n", "6\n6\n"},
		{"show\nother", "1*((()))\n0\n"}, {"cup 0\nfly\nshow\n", "1*()()()\nerror\n1*()()()\n"}, {" ", "error\n"}, {" \n \n", "error\nerror\n"}, {"reset\n", "ok\n"},
		{"show\r\nother\r\n", "error\nerror\n"}, {"show\r", "error\n"}, {"\r\n", "error\n"}, {"\t\nshow\t\n\tshow", "error\nerror\nerror\n"}, {"show\x00\nshow", "error\n1*((()))\n"}, {"show\v\nshow\f\nshow\u0085show", "error\nerror\nerror\n"}, {"sh\u00f6w\n\xff\nshow\xa0\nshow\u00a0\n\u2028\n\ufeffshow\n\u4e2d\u6587\nshow", "error\nerror\nerror\nerror\nerror\nerror\nerror\n1*((()))\n"},
		{"cup 0\nswap\ncup 1\ntimes\ntrace", "1*()()()\n0\n1*(()())\n1*(())()\n3\n"},
	} {
		if got := impl.Console(row[0]); got != row[1] {
			t.Errorf("Console(%q) = %q, not %q", row[0], got, row[1])
		}
		checkText(t, row[0])
	}
	if d, ok := impl.DeskAfter("cup 0\nfly\nswap"); !ok || modelElementText(d.First) != "0" || modelElementText(d.Second) != "1*()()()" {
		t.Errorf("DeskAfter = %v, %v", d, ok)
	}
	if d, ok := impl.DeskAfter("new 5 2 2\ncup 0\n\n"); !ok || modelElementText(d.First) != "1*()()" || d.Second.Prime != 5 || d.Second.Size != 2 {
		t.Errorf("DeskAfter = %v, %v", d, ok)
	}
}

// TestAppendedTexts checks that the outputs of a text with more lines behind it begin with its outputs,
// and that a text behind reset has the outputs that it has alone.
func TestAppendedTexts(t *testing.T) {
	for name, script := range scripts {
		text := ""
		for _, pair := range script {
			before := impl.Console(text)
			text += pair[0] + "\n"
			if after := impl.Console(text); after != before+pair[1]+"\n" {
				t.Fatalf("%s: Console(%q) = %q", name, text, after)
			}
		}
	}
	for _, first := range []string{"cup 0", "new 97 5 8", "second 2*()()()\nclose\nclose", "new 2 1 1\nscale 0\nswap"} {
		for _, second := range []string{"show\nother\ntrace\nzero", "cup 1\nplus\ninverse\nswap"} {
			want := impl.Console(first) + "ok\n" + impl.Console(second)
			if got := impl.Console(first + "\nreset\n" + second); got != want {
				t.Errorf("Console of %q and %q = %q, not %q", first, second, got, want)
			}
		}
	}
}
