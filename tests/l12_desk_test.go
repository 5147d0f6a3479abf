package tests

import (
	"fmt"
	"math"
	"math/rand"
	"regexp"
	"slices"
	"strconv"
	"strings"
	"sync"
	"testing"

	"loop.example/flatarrays/impl"
)

// The words of lines that need a rest, of those that tell of the term and need none, and of all those that need none.
var (
	wordsWithRest    = strings.Fields("term replace a b time hands same cheaper of layout fold shape transpose pad times")
	wordsOfTerms     = strings.Fields("term depth free run flat code heights levels widths work steps spread bylevel rule rules")
	wordsWithoutRest = append(wordsOfTerms, "arrays", "simplify")
)

// joined returns the text of lines, with a newline behind each of them.
func joined(lines ...string) string {
	return strings.Join(lines, "\n") + "\n"
}

func expectOutput(t *testing.T, script string, want string) {
	t.Helper()
	if got := impl.RunScript(script); got != want {
		t.Errorf("RunScript(%.200q) = %.200q, not %.200q", script, got, want)
	}
}

// A said is a line and its output, without the newline behind it.
type said struct{ line, want string }

// expectSaid checks a script of lines that go on one from another.
func expectSaid(t *testing.T, list []said) {
	t.Helper()
	script, want := "", ""
	for _, c := range list {
		script += c.line + "\n"
		want += c.want + "\n"
		expectOutput(t, script, want)
	}
}

// expectEach checks lines each of which follows some others by itself.
func expectEach(t *testing.T, ahead []said, list []said) {
	t.Helper()
	for _, c := range list {
		script, want := "", ""
		for _, before := range ahead {
			script += before.line + "\n"
			want += before.want + "\n"
		}
		expectOutput(t, script+c.line, want+c.want+"\n")
	}
}

// ofDocument is what the interpreter takes at first in the document's example.
var ofDocument = []said{{"a [1,2]", "[1,2]"}, {"b [[1,2],[],[3]]", "[[1,2],[],[3]]"}, {"term [x:b>Sx]", "[x:b>Sx]"}}

// numbersText returns what FormatNumbers is to return.
func numbersText(list []int) string { return formatted(impl.Layout{Data: list}) }

// A scribe is the tests' own picture of the interpreter.
type scribe struct{ t, a, b string }

// orNo returns a text, or the output of a line that has none.
func orNo(text string, ok bool) string {
	if !ok {
		return "no"
	}
	return text
}

func orDash(text string) string {
	if text == "" {
		return "-"
	}
	return text
}

func listOrNo(list []int, ok bool) string { return orNo(numbersText(list), ok) }
func numberOrNo(n int) string             { return orNo(strconv.Itoa(n), n >= 0) }

// givenOr returns a text or a reason, of which one is empty.
func givenOr(text, why string) string { return text + why }

// keep makes what is at a place a text, if there is one, and returns the output.
func keep(place *string, text string, ok bool) string {
	if ok {
		*place = text
	}
	return orNo(text, ok)
}

// alone returns the output of a line without a rest.
func (s *scribe) alone(word string) string {
	code, _ := impl.CodeOf(s.t)
	switch word {
	case "term":
		return s.t
	case "simplify":
		simple, ok := impl.SimplifyTerm(s.t)
		return keep(&s.t, simple, ok)
	case "arrays":
		return s.a + " " + s.b
	case "depth":
		return numberOrNo(impl.DepthOfTerm(s.t))
	case "free":
		return orDash(impl.FreeVars(s.t))
	case "run":
		return givenOr(impl.RunTerm(s.t, s.a, s.b))
	case "flat":
		return givenOr(impl.RunCode(code, s.a, s.b))
	case "code":
		return code
	case "heights":
		return listOrNo(impl.HeightsOf(code))
	case "levels":
		return listOrNo(impl.LevelsAt(code))
	case "widths":
		return listOrNo(impl.WidthsOf(code, s.a, s.b))
	case "work":
		return numberOrNo(impl.WorkOf(s.t, s.a, s.b))
	case "steps":
		return numberOrNo(impl.StepsOf(s.t, s.a, s.b))
	case "spread":
		return numberOrNo(impl.SpreadOf(s.t, s.a, s.b))
	case "bylevel":
		return listOrNo(impl.WorkByLevel(s.t, s.a, s.b))
	case "rule":
		return impl.NameOfRule(impl.RuleFor(s.t))
	case "rules":
		return listOrNo(impl.CountRules(s.t))
	}
	return "what"
}

var (
	placePattern = regexp.MustCompile(`\A([abv-z]) (.*)\z`)
	countPattern = regexp.MustCompile(`\A(?:0|[1-9][0-9]{0,16})\z`)
)

// with returns the output of a line with a rest.
func (s *scribe) with(word, rest string) string {
	switch word {
	case "term":
		return keep(&s.t, rest, impl.TermValid(rest))
	case "a":
		return keep(&s.a, rest, impl.ArrayValid(rest, 1))
	case "b":
		return keep(&s.b, rest, impl.ArrayValid(rest, 2))
	case "replace":
		found := placePattern.FindStringSubmatch(rest)
		if found == nil {
			return "no"
		}
		replaced, ok := impl.ReplaceVar(s.t, found[1], found[2])
		return keep(&s.t, replaced, ok)
	case "time", "hands":
		if !countPattern.MatchString(rest) {
			return "no"
		}
		n, _ := strconv.Atoi(rest)
		if word == "time" {
			return numberOrNo(impl.TimeOf(s.t, s.a, s.b, n))
		}
		return numberOrNo(impl.HandsFor(s.t, s.a, s.b, n))
	case "same":
		return fmt.Sprint(impl.GivesSame(s.t, rest, s.a, s.b))
	case "cheaper":
		return fmt.Sprint(impl.IsCheaper(s.t, rest, s.a, s.b))
	}
	return s.ofRest(word, rest)
}

// ofRest returns the output of a line with a rest that does not depend on the term.
func (s *scribe) ofRest(word, rest string) string {
	switch word {
	case "of":
		return orNo(impl.TermOf(rest))
	case "layout":
		l, ok := impl.LayOut(rest, impl.LeastDepth(rest))
		return orNo(formatted(l), ok)
	case "fold":
		l, ok := impl.ParseLayout(rest)
		array, short := impl.FoldUp(l)
		return orNo(array, ok && short)
	case "shape":
		return listOrNo(impl.ShapeOf(rest, impl.LeastDepth(rest)))
	case "transpose":
		return orNo(impl.TransposeArray(rest))
	case "pad":
		return orNo(impl.PadArray(rest))
	case "times":
		return orNo(impl.MultiplyArrays(s.b, rest))
	}
	return "what"
}

func (s *scribe) output(line string) string {
	if space := strings.Index(line, " "); space >= 0 {
		return s.with(line[:space], line[space+1:])
	}
	return s.alone(line)
}

// outputOf returns what a script of lines is to return that is not too long.
func outputOf(lines []string) string {
	s := &scribe{"a", "[]", "[]"}
	output := ""
	for i, line := range lines {
		switch {
		case line == "":
		case i > 99 || len(output) > 40000:
			return output + "full\n"
		default:
			output += s.output(line) + "\n"
		}
	}
	return output
}

func TestLimitsOfScripts(t *testing.T) {
	if impl.MaxScript != 20000 || impl.MaxLines != 100 || impl.MaxOutput != 40000 {
		t.Errorf("the limits are %d, %d and %d", impl.MaxScript, impl.MaxLines, impl.MaxOutput)
	}
}

func TestFormatNumbers(t *testing.T) {
	for _, c := range []struct {
		list []int
		want string
	}{
		{nil, "-"},
		{[]int{}, "-"},
		{[]int{0}, "0"},
		{[]int{7}, "7"},
		{[]int{-7}, "-7"},
		{[]int{10007}, "10007"},
		{[]int{1, 0, -3}, "1 0 -3"},
		{[]int{0, 0}, "0 0"},
		{[]int{10, -1, 100, -200}, "10 -1 100 -200"},
		{[]int{math.MinInt}, "-9223372036854775808"},
		{[]int{math.MaxInt}, "9223372036854775807"},
		{[]int{math.MaxInt, math.MinInt, math.MinInt + 1}, "9223372036854775807 -9223372036854775808 -9223372036854775807"},
		{slices.Repeat([]int{-12}, 5000), "-12" + strings.Repeat(" -12", 4999)},
	} {
		if got := impl.FormatNumbers(c.list); got != c.want {
			t.Errorf("FormatNumbers(%.99s) = %.99q", fmt.Sprint(c.list), got)
		}
	}
}

func TestFormatNumbersLeavesItsList(t *testing.T) {
	memory := []int{5, -6, 7, 8}
	impl.FormatNumbers(memory[:2])
	if !slices.Equal(memory, []int{5, -6, 7, 8}) {
		t.Errorf("FormatNumbers changed its list: %v", memory)
	}
}

// listsUpTo returns all lists of at most so many of some elements.
func listsUpTo[T any](most int, elements ...T) [][]T {
	all := [][]T{{}}
	for from := 0; most > 0; most-- {
		to := len(all)
		for _, list := range all[from:to] {
			for _, element := range elements {
				all = append(all, append(slices.Clone(list), element))
			}
		}
		from = to
	}
	return all
}

func TestListsWithTheSameTextAreTheSame(t *testing.T) {
	lists := listsUpTo(4, 0, 1, 11, 111, -1, -11, 10, math.MinInt, math.MaxInt)
	source := rand.New(rand.NewSource(40))
	for range 5000 {
		list := []int{}
		for range source.Intn(6) {
			list = append(list, (source.Int()-source.Int())>>source.Intn(63))
		}
		lists = append(lists, list)
	}
	byText := map[string][]int{}
	for _, list := range lists {
		text := impl.FormatNumbers(list)
		if text != numbersText(list) {
			t.Errorf("FormatNumbers(%v) = %q", list, text)
		}
		if other, ok := byText[text]; ok && !slices.Equal(list, other) {
			t.Errorf("%v and %v have the same text %q", list, other, text)
		}
		byText[text] = list
	}
}

// example is the script of the document's example, and what it produces.
var example = []said{
	{"a [1,2]", "[1,2]"},
	{"b [[1,2],[],[3]]", "[[1,2],[],[3]]"},
	{"term [x:b>Sx]", "[x:b>Sx]"},
	{"depth", "1"},
	{"run", "[3,0,3]"},
	{"code", "b [x x S ]"},
	{"flat", "[3,0,3]"},
	{"heights", "1 1 2 2 1"},
	{"levels", "0 0 1 1 0"},
	{"widths", "1 3 3 3 1"},
	{"work", "8"},
	{"steps", "4"},
	{"spread", "0"},
	{"bylevel", "2 6"},
	{"time 3", "4"},
	{"hands 5", "3"},
	{"rules", "0 0 0 0 0 0 0"},
	{"term [x:[y:a>(y+1)]>(x*2)]", "[x:[y:a>(y+1)]>(x*2)]"},
	{"rule", "fuse"},
	{"run", "[4,6]"},
	{"simplify", "[y:a>((y+1)*2)]"},
	{"run", "[4,6]"},
	{"free", "a"},
	{"same [x:a>((x*2)+2)]", "true"},
	{"cheaper [x:[y:a>(y+1)]>(x*2)]", "true"},
	{"replace a I3", "[y:I3>((y+1)*2)]"},
	{"run", "[2,4,6]"},
	{"of a [x a [y x y * ] ]", "[x:a>[y:a>(x*y)]]"},
	{"layout [[1,2],[],[3]]", "3|2 0 1|1 2 3"},
	{"fold 2|1 2|7 8 9", "[[7],[8,9]]"},
	{"shape [[1,2],[3,4]]", "2 2"},
	{"transpose [[1,2,3],[4,5,6]]", "[[1,4],[2,5],[3,6]]"},
	{"pad [[1,2],[],[3]]", "[[1,2],[0,0],[3,0]]"},
	{"b [[1,2],[3,4]]", "[[1,2],[3,4]]"},
	{"times [[5],[6]]", "[[17],[39]]"},
	{"term x", "x"},
	{"run", "wrong"},
	{"depth", "no"},
	{"work", "no"},
	{"foo", "what"},
}

func TestExampleOfScripts(t *testing.T) {
	expectSaid(t, example)
}

func TestWhatTheInterpreterHasAtFirst(t *testing.T) {
	expectEach(t, nil, []said{
		{"term", "a"}, {"arrays", "[] []"}, {"depth", "1"}, {"free", "a"}, {"simplify", "a"}, {"code", "a"},
		{"run", "[]"}, {"flat", "[]"}, {"heights", "1"}, {"levels", "0"}, {"widths", "1"}, {"work", "1"}, {"steps", "1"}, {"spread", "0"}, {"bylevel", "1"},
		{"time 1", "1"}, {"time 1000", "1"}, {"hands 1", "1"}, {"hands 0", "no"}, {"same a", "true"}, {"same b", "false"}, {"cheaper Ra", "true"},
		{"rule", "none"}, {"rules", "0 0 0 0 0 0 0"}, {"times []", "[]"}, {"times [[1]]", "no"},
	})
}

func TestEmptyScriptsAndLines(t *testing.T) {
	for _, script := range []string{"", "\n", "\n\n", strings.Repeat("\n", 99), strings.Repeat("\n", 100), strings.Repeat("\n", 101), strings.Repeat("\n", 20000)} {
		expectOutput(t, script, "")
	}
	for _, script := range []string{"term", "term\n", "\nterm", "\n\nterm\n", "term\n\n", "\n\n\nterm\n\n\n"} {
		expectOutput(t, script, "a\n")
	}
	for _, script := range []string{"term 3\nterm", "term 3\nterm\n", "term 3\n\nterm", "\nterm 3\n\n\n\nterm\n\n"} {
		expectOutput(t, script, "3\n3\n")
	}
	for _, script := range []string{"x", "x\n", "\nx\n\n", " ", " \n", "\n \n"} {
		expectOutput(t, script, "what\n")
	}
	expectOutput(t, "term 3\r\nterm\r\n", "no\nwhat\n")
}

func TestScriptsToTheLimit(t *testing.T) {
	for _, c := range []struct{ first, filling, last, want string }{
		{"", "\n", "", ""},
		{"", "x", "", "what\n"},
		{"", " ", "", "what\n"},
		{"", "\x00", "", "what\n"},
		{"", "x", "\nterm", "what\na\n"},
		{"term 3\n", "x", "\nterm\n", "3\nwhat\n3\n"},
		{"term\n", "\n", "", "a\n"},
		{"term ", "R", "a", "no\n"},
		{"term\nsame ", " ", "\nterm", "a\nfalse\na\n"},
		{"term\n", "\n", "term", "a\nfull\n"},
	} {
		room := 20000 - len(c.first+c.last)
		expectOutput(t, c.first+strings.Repeat(c.filling, room-1)+c.last, c.want)
		expectOutput(t, c.first+strings.Repeat(c.filling, room)+c.last, c.want)
		expectOutput(t, c.first+strings.Repeat(c.filling, room+1)+c.last, "long\n")
		expectOutput(t, c.first+strings.Repeat(c.filling, 2*room)+c.last, "long\n")
	}
}

func TestLinesToTheLimit(t *testing.T) {
	for _, c := range []struct{ lines, want string }{
		{"\n", ""},
		{"x\n", "what\n"},
		{"a x\n", "no\n"},
		{"term\n", "a\n"},
		{"\nterm\n", "a\n"},
		{"term\n\n", "a\n"},
		{"\n\n\nx\na [1]\n", "what\n[1]\n"},
	} {
		each := strings.Count(c.lines, "\n")
		for count := 96; count <= 102; count++ {
			// Empty lines stand ahead of the others where these do not add up to the count.
			ahead := strings.Repeat("\n", count%each) + strings.Repeat(c.lines, count/each)
			want := outputOf(strings.Split(ahead, "\n"))
			expectOutput(t, ahead, want)
			expectOutput(t, ahead+"\n\n\n", want)
			if count < 100 {
				if want != strings.Repeat(c.want, count/each) {
					t.Errorf("%d lines of %q have the output %q", count, c.lines, want)
				}
				expectOutput(t, ahead+"term", want+"a\n")
				expectOutput(t, ahead+strings.Repeat("\n", 99-count)+"term\n", want+"a\n")
				expectOutput(t, ahead+strings.Repeat("\n", 100-count)+"term\n", want+"full\n")
			} else if !strings.HasSuffix(want, "full\n") {
				for _, more := range []string{"term", "term\n", "\n\nterm\n", "foo", " ", "a [5]\narrays\n", "term\nterm\nterm\n"} {
					expectOutput(t, ahead+more, want+"full\n")
				}
			}
		}
	}
}

func TestLinesBeforeTheLastOnes(t *testing.T) {
	ahead := strings.Repeat("\n", 98)
	expectOutput(t, ahead+"a [1]\narrays\n", "[1]\n[1] []\n")
	expectOutput(t, ahead+"a [1]\n\narrays\n", "[1]\nfull\n")
	expectOutput(t, ahead+"a [1]\narrays\narrays\narrays\n", "[1]\n[1] []\nfull\n")
	expectOutput(t, ahead+"a [1]\narrays\n\n\n\n", "[1]\n[1] []\n")
}

// scriptWithOutput returns a script whose output has so many bytes, from 39704 to 40101, and this output.
func scriptWithOutput(size int) (string, string) {
	a, b := ones(400), onesOf(400, 2)
	script, output := joined("a "+a, "b "+b), joined(a, b)
	script += strings.Repeat("arrays\n", 48)
	output += strings.Repeat(a+" "+b+"\n", 48)
	for _, next := range []string{ones(200), ones(200), ones(size - len(output) - 403)} {
		script += "a " + next + "\n"
		output += next + "\n"
	}
	return script, output
}

func TestOutputToTheLimit(t *testing.T) {
	for _, size := range []int{39704, 39990, 39998, 39999, 40000} {
		script, output := scriptWithOutput(size)
		if len(output) != size {
			t.Errorf("the output has %d bytes, not %d", len(output), size)
		}
		expectOutput(t, script, output)
		expectOutput(t, script+"\n\n", output)
		expectOutput(t, script+"term", output+"a\n")
		expectOutput(t, script+"\n\nterm\n\n", output+"a\n")
		expectOutput(t, script+"foo\n", output+"what\n")
		expectOutput(t, script+"a x\n", output+"no\n")
	}
	for _, size := range []int{40001, 40002, 40010, 40101} {
		script, output := scriptWithOutput(size)
		expectOutput(t, script, output)
		expectOutput(t, script+"\n\n", output)
		for _, more := range []string{"term", "term\n", "\n\nterm\n\n", "foo\n", "a x", "term\nterm\n", " "} {
			expectOutput(t, script+more, output+"full\n")
		}
	}
}

func TestOutputThatGrowsPastTheLimit(t *testing.T) {
	script, output := scriptWithOutput(39996)
	expectOutput(t, script+"term\nterm\nterm\nterm\n", output+"a\na\na\nfull\n")
	expectOutput(t, script+"free\nterm x\nterm\nterm\n", output+"a\nx\nx\nfull\n")
	script, output = scriptWithOutput(40000)
	output += ones(299) + " " + onesOf(400, 2) + "\n"
	expectOutput(t, script+"arrays", output)
	expectOutput(t, script+"arrays\n\n\nterm", output+"full\n")
	expectOutput(t, script+"arrays\narrays\n", output+"full\n")
}

func TestTermsThatAreTaken(t *testing.T) {
	expectEach(t, ofDocument, []said{
		{"term", "[x:b>Sx]"},
		{"term 7\nterm", "7\n7"},
		{"term b\nterm\ndepth", "b\nb\n2"},
		{"term (x+y)\nterm", "(x+y)\n(x+y)"},
		{"term SSa\nterm", "SSa\nSSa"},
		{"term q\nterm", "no\n[x:b>Sx]"},
		{"term Sab\nterm", "no\n[x:b>Sx]"},
		{"term [x:b>Sx\nterm", "no\n[x:b>Sx]"},
		{"term 10\nterm", "no\n[x:b>Sx]"},
		{"term b S\nterm", "no\n[x:b>Sx]"},
		{"term a \nterm", "no\n[x:b>Sx]"},
		{"term " + strings.Repeat("R", 79) + "a\nterm", strings.Repeat("R", 79) + "a\n" + strings.Repeat("R", 79) + "a"},
		{"term " + strings.Repeat("R", 80) + "a\nterm", "no\n[x:b>Sx]"},
	})
}

func TestTermsThatAreSimplifiedAtTheDesk(t *testing.T) {
	expectEach(t, ofDocument, []said{
		{"simplify\nterm", "[x:b>Sx]\n[x:b>Sx]"},
		{"rule\nrules", "none\n0 0 0 0 0 0 0"},
		{"term SRa\nrule\nrules\nsimplify\nterm\nrule\nrules", "SRa\nturn\n0 0 0 1 0 0 0\nSa\nSa\nnone\n0 0 0 0 0 0 0"},
		{"term SR[x:a>(x*(2-1))]\nrules\nsimplify\nterm", "SR[x:a>(x*(2-1))]\n0 1 1 1 1 0 0\nSa\nSa"},
		{"term (1+2)\nrule", "(1+2)\nfold"},
		{"term (x*1)\nrule", "(x*1)\nneutral"},
		{"term {x:b>7}\nrule", "{x:b>7}\nloop"},
		{"term N[x:b>Sx]\nrule\nrules", "N[x:b>Sx]\nlength\n0 0 0 0 0 1 0"},
		{"term [x:[y:a>y]>x]\nrule\nrules", "[x:[y:a>y]>x]\nloop\n0 0 0 0 2 0 0"},
		{"term I(1+2)\nrule\nrules\nsimplify", "I(1+2)\nnone\n0 1 0 0 0 0 0\nI3"},
		// Terms that give nothing are simplified as well.
		{"term RRx\nrun\nrule\nsimplify\nterm", "RRx\nwrong\nturn\nx\nx"},
		{"term S(1+2)\ndepth\nsimplify\nterm", "S(1+2)\nno\nS3\nS3"},
	})
}

func TestVariablesThatAreReplacedAtTheDesk(t *testing.T) {
	expectEach(t, ofDocument, []said{
		{"replace b Rb\nterm\nrun", "[x:Rb>Sx]\n[x:Rb>Sx]\n[3,0,3]"},
		{"replace a 1\nterm", "[x:b>Sx]\n[x:b>Sx]"},
		{"replace x 1\nterm", "[x:b>Sx]\n[x:b>Sx]"},
		{"replace b [x:b>x]\nterm", "[x:[x:b>x]>Sx]\n[x:[x:b>x]>Sx]"},
		{"replace b b\nterm", "[x:b>Sx]\n[x:b>Sx]"},
		{"replace b x\nterm", "[x:x>Sx]\n[x:x>Sx]"},
		{"term (((((v+w)+x)+y)+z)+Sa)\nreplace v 1\nreplace w 2\nreplace x 3\nreplace y 4\nreplace z 5\nreplace a v", "(((((v+w)+x)+y)+z)+Sa)\n(((((1+w)+x)+y)+z)+Sa)\n(((((1+2)+x)+y)+z)+Sa)\n(((((1+2)+3)+y)+z)+Sa)\n(((((1+2)+3)+4)+z)+Sa)\n(((((1+2)+3)+4)+5)+Sa)\n(((((1+2)+3)+4)+5)+Sv)"},
		// No term, a variable that would be bound, and a term that would be too long.
		{"replace b q\nterm", "no\n[x:b>Sx]"},
		{"replace b Sxx\nterm", "no\n[x:b>Sx]"},
		{"term [x:b>a]\nreplace a x\nterm", "[x:b>a]\nno\n[x:b>a]"},
		{"replace b " + strings.Repeat("R", 73) + "b", "no"},
		{"replace b " + strings.Repeat("R", 72) + "b", "[x:" + strings.Repeat("R", 72) + "b>Sx]"},
	})
}

func TestWhatMayNotBeReplaced(t *testing.T) {
	for _, rest := range []string{
		// What is no variable, has no byte or two.
		"c 3", "u 3", "A 3", "X 3", "1 3", "S 3", "[ 3", "\x00 3", "\xff 3", "- 3", " 3", "  3", "ab 3", "bb 3", "b b 3", "bx 3", "ä 3", "bb",
		// No term behind a space.
		"", " ", "  ", "b", "b ", "b  ", "b  3", " b 3", "b3", "b3 ", "b 3 ", "b 3 4", "b 33", "b,3", "b\t3", "3 b", "b q", "bS3", "b -1",
	} {
		expectEach(t, ofDocument, []said{{"replace " + rest + "\nterm", "no\n[x:b>Sx]"}})
	}
}

func TestArraysThatAreTaken(t *testing.T) {
	expectEach(t, ofDocument, []said{
		{"arrays", "[1,2] [[1,2],[],[3]]"},
		{"a []\narrays", "[]\n[] [[1,2],[],[3]]"},
		{"b []\narrays", "[]\n[1,2] []"},
		{"b [[]]\narrays", "[[]]\n[1,2] [[]]"},
		{"a [10006]\nb [[10006]]\narrays", "[10006]\n[[10006]]\n[10006] [[10006]]"},
		{"a " + ones(400) + "\nb " + onesOf(400, 2) + "\narrays", ones(400) + "\n" + onesOf(400, 2) + "\n" + ones(400) + " " + onesOf(400, 2)},
		{"a [4,5]\nterm a\nrun\nterm b\nrun", "[4,5]\na\n[4,5]\nb\n[[1,2],[],[3]]"},
		{"b [[4],[5,6]]\nrun\nflat\nwork", "[[4],[5,6]]\n[4,11]\n[4,11]\n6"},
	})
	for _, rest := range []string{"", " ", "1", "[[1]]", "[[]]", "[[],[]]", "[[[]]]", "[1", "1]", "[1,]", "[1, 2]", "[01]", "[10007]", "[-1]", " [1]", "[1] ", "[1] [2]", "x", "a", ones(401)} {
		expectEach(t, ofDocument, []said{{"a " + rest + "\narrays", "no\n[1,2] [[1,2],[],[3]]"}})
	}
	for _, rest := range []string{"", " ", "1", "[1]", "[1,2]", "[[[]]]", "[[[1]]]", "[[],1]", "[[1]", "[[1],]", "[[1], [2]]", "[[01]]", "[[10007]]", "[[-1]]", " [[1]]", "[[1]] ", "[[1]] [[2]]", "x", "b", onesOf(401, 2)} {
		expectEach(t, ofDocument, []said{{"b " + rest + "\narrays", "no\n[1,2] [[1,2],[],[3]]"}})
	}
}

func TestLinesAboutTheTerm(t *testing.T) {
	expectEach(t, ofDocument, []said{
		{"depth", "1"}, {"free", "b"}, {"code", "b [x x S ]"}, {"heights", "1 1 2 2 1"}, {"levels", "0 0 1 1 0"},
		{"term 7\ndepth\nfree\ncode\nheights\nlevels", "7\n0\n-\n7\n1\n0"},
		{"term [x:I3>[y:b>Sy]]\ndepth\nfree\ncode\nheights\nlevels", "[x:I3>[y:b>Sy]]\n2\nb\n3 I [x b [y y S ] ]\n1 1 1 2 2 3 3 2 1\n0 0 0 1 1 2 2 1 0"},
		{"term {x:b>Nx}\ndepth\ncode\nheights\nlevels", "{x:b>Nx}\n2\nb {x x N }\n1 1 2 2 1\n0 0 1 1 0"},
		// Code, heights and levels need no depth.
		{"term (z+[x:y>(x+y)])\ndepth\nfree\ncode\nheights\nlevels", "(z+[x:y>(x+y)])\nno\nyz\nz y [x x y + ] +\n1 2 2 3 4 3 2 1\n0 0 0 1 1 1 0 0"},
		{"term " + strings.Repeat("R", 79) + "7\ncode", strings.Repeat("R", 79) + "7\n7" + strings.Repeat(" R", 79)},
	})
}

func TestFreeVariablesAtTheDesk(t *testing.T) {
	for s, want := range map[string]string{
		"0": "-", "I9": "-", "(1+2)": "-", "[x:I3>x]": "-", "[x:I3>[y:Ix>(x+y)]]": "-", "{z:I9>(z<5)}": "-", "SS1": "-",
		"a": "a", "b": "b", "v": "v", "z": "z", "(b+a)": "ab", "[x:x>x]": "x", "[x:I3>y]": "y", "((z+(y+x))+(w+(v+(b+a))))": "abvwxyz",
	} {
		expectSaid(t, []said{{"term " + s, s}, {"free", want}})
	}
}

func TestLinesAboutRuns(t *testing.T) {
	expectEach(t, ofDocument, []said{
		{"run", "[3,0,3]"}, {"flat", "[3,0,3]"}, {"widths", "1 3 3 3 1"}, {"work", "8"}, {"steps", "4"}, {"spread", "0"}, {"bylevel", "2 6"},
		{"term 7\nrun\nflat\nwidths\nwork\nsteps\nspread\nbylevel", "7\n7\n7\n1\n1\n1\n0\n1"},
		{"term [x:a>(a@x)]\nrun\nflat\nwidths\nwork\nsteps\nspread\nbylevel", "[x:a>(a@x)]\n[2,0]\n[2,0]\n1 2 2 2 2 1\n8\n5\n4\n2 6"},
		{"term [x:a>[y:a>x]]\nrun\nflat\nwidths\nwork\nsteps\nspread\nbylevel", "[x:a>[y:a>x]]\n[[1,1],[2,2]]\n[[1,1],[2,2]]\n1 2 2 4 4 2 1\n10\n5\n8\n2 4 4"},
		{"term {x:b>0}\nrun\nflat", "{x:b>0}\n[]\n[]"},
		{"term Ca\nrun\nflat", "Ca\nwrong\nwrong"},
	})
}

func TestLinesOfTimeAndHands(t *testing.T) {
	expectEach(t, ofDocument, []said{
		{"time 1", "8"}, {"time 2", "6"}, {"time 3", "4"}, {"time 1000", "4"}, {"time 1001", "no"}, {"time 0", "no"}, {"time 99999999999999999", "no"},
		{"hands 9", "1"}, {"hands 8", "1"}, {"hands 7", "2"}, {"hands 6", "2"}, {"hands 5", "3"}, {"hands 4", "3"}, {"hands 3", "no"}, {"hands 0", "no"},
		{"hands 1000", "1"}, {"hands 1001", "1"}, {"hands 10007", "1"}, {"hands 9223372036854775", "1"},
	})
}

func TestNumbersInLines(t *testing.T) {
	for _, c := range []struct{ rest, time, hands string }{
		{"8", "4", "1"},
		{"1234567890123456", "no", "1"},
		{"12345678901234567", "no", "1"},
		{"10000000000000000", "no", "1"},
		{"99999999999999999", "no", "1"},
		{"123456789012345678", "no", "no"},
		{"100000000000000000", "no", "no"},
		{"999999999999999999", "no", "no"},
		{"9223372036854775807", "no", "no"},
		{"9223372036854775808", "no", "no"},
		{"18446744073709551624", "no", "no"},
		{strings.Repeat("1", 1000), "no", "no"},
	} {
		expectEach(t, ofDocument, []said{{"time " + c.rest, c.time}, {"hands " + c.rest, c.hands}})
	}
	for _, rest := range []string{
		// Without digits, with a sign, and with zeros ahead.
		"", " ", "x", "a", "-", "+", ".", "eight", "-8", "+8", "-0", "+0", "--8", "08", "008", "00", "000000000000000008", "00000000000000008", "0000000000000008",
		" 8", "8 ", "  8", "8 8", "8,8", "8.", "8.0", ".8", "8e0", "8e", "0x8", "0b1", "0o7", "8_0", "1_000", "8\x00", "\x008", "8\t", "8\r", "８", "٨", "8a", "a8", "Ⅷ", "8\xff",
	} {
		expectEach(t, ofDocument, []said{{"time " + rest, "no"}, {"hands " + rest, "no"}})
	}
}

func TestLinesOfTwoTerms(t *testing.T) {
	expectEach(t, ofDocument, []said{
		{"same [x:b>Sx]", "true"}, {"same [y:b>Sy]", "true"}, {"same R[x:Rb>Sx]", "true"}, {"same Sa", "false"}, {"same b", "false"},
		{"cheaper R[x:Rb>Sx]", "true"}, {"cheaper RR[x:b>Sx]", "true"}, {"cheaper [x:b>Sx]", "false"}, {"cheaper [y:b>Sy]", "false"}, {"cheaper Sa", "false"}, {"cheaper RRa", "false"},
		{"term RR[x:b>Sx]\nsame [x:b>Sx]\ncheaper [x:b>Sx]", "RR[x:b>Sx]\ntrue\nfalse"},
		// What has no parts is the same only if it has the same depth.
		{"term {x:a>0}\nsame {x:b>0}\nsame I0\ncheaper RRI0\ncheaper RR{x:b>0}", "{x:a>0}\nfalse\ntrue\nfalse\nfalse"},
		{"term I0\ncheaper {x:a>0}", "I0\ntrue"},
	})
	for _, rest := range []string{"", " ", "q", "x", "SS1", "a a", "[x:b>Sx] ", " [x:b>Sx]", "b [x x S ]", "[3,0,3]", strings.Repeat("R", 80) + "b"} {
		expectEach(t, ofDocument, []said{{"same " + rest, "false"}, {"cheaper " + rest, "false"}})
	}
}

func TestLinesOfCode(t *testing.T) {
	expectEach(t, ofDocument, []said{
		{"of a S", "Sa"}, {"of 7", "7"}, {"of b [x x S ]", "[x:b>Sx]"}, {"of x y +", "(x+y)"}, {"of a {x x }", "{x:a>x}"}, {"of 7 S S", "SS7"},
		{"of 7" + strings.Repeat(" R", 79), strings.Repeat("R", 79) + "7"}, {"of 7" + strings.Repeat(" R", 80), "no"},
	})
	for _, rest := range []string{"", " ", "S", "a a", "a  S", " a S", "a S ", "Sa", "[x:b>Sx]", "b [x x S }", "b [x x S", "b [a a ]", "q", "+", "10", "a b", "a\tS"} {
		expectEach(t, ofDocument, []said{{"of " + rest, "no"}})
	}
}

func TestLinesOfLayouts(t *testing.T) {
	expectEach(t, ofDocument, []said{
		{"layout 7", "7"}, {"layout 0", "0"}, {"layout 10006", "10006"}, {"layout [1,2]", "2|1 2"}, {"layout [[1,2],[],[3]]", "3|2 0 1|1 2 3"}, {"layout [[[1],[]],[[2,3]]]", "2|2 1|1 0 2|1 2 3"},
		{"fold 7", "7"}, {"fold 2|1 2", "[1,2]"}, {"fold 3|2 0 1|1 2 3", "[[1,2],[],[3]]"}, {"fold 2|2 1|1 0 2|1 2 3", "[[[1],[]],[[2,3]]]"}, {"fold 0|-", "[]"}, {"fold 0|-|-", "[]"}, {"fold 1|0|-", "[[]]"},
		{"layout " + ones(400), "199|11" + strings.Repeat(" 1", 198)}, {"fold 199|11" + strings.Repeat(" 1", 198), ones(400)},
		// The array of a valid layout may be too long.
		{"fold 199|11 11" + strings.Repeat(" 1", 197), "no"}, {"fold 200|1" + strings.Repeat(" 1", 199), "no"}, {"fold 133|0" + strings.Repeat(" 0", 132) + "|-", "[[]" + strings.Repeat(",[]", 132) + "]"}, {"fold 134|0" + strings.Repeat(" 0", 133) + "|-", "no"},
	})
	for _, rest := range []string{"", " ", "x", "a", "-1", "01", "10007", "1 ", " 1", "1 2", "[", "[1", "[1,]", "[1, 2]", "[1,[2]]", "[[[[]]]]", "[[[[1]]]]", "[1] ", " [1]", "3|2 0 1|1 2 3", "-", ones(401), onesOf(401, 3)} {
		expectEach(t, ofDocument, []said{{"layout " + rest, "no"}, {"shape " + rest, "no"}})
	}
	for _, rest := range []string{"", " ", "-", "|", "1|", "|1", "x", "[1,2]", "2|1", "2|1 2 3", "2|1  2", "2|1 2 ", " 2|1 2", "2 |1 2", "2| 1 2", "02|1 2", "+2|1 2", "1|10007", "1|-1", "-1|-", "-|-", "1 1|1 2", "2|1 2|7 8", "1|1|1|1|7", "401|-"} {
		expectEach(t, ofDocument, []said{{"fold " + rest, "no"}})
	}
}

func TestArraysOfWhichNobodySeesTheDepth(t *testing.T) {
	expectEach(t, ofDocument, []said{
		{"layout []", "0|-"}, {"layout [[]]", "1|0|-"}, {"layout [[],[]]", "2|0 0|-"}, {"layout [[[]]]", "1|1|0|-"}, {"layout [[],[[]]]", "2|0 1|0|-"}, {"layout [[[]],[]]", "2|1 0|0|-"}, {"layout [[],[1]]", "2|0 1|1"},
		{"shape []", "0"}, {"shape [[]]", "1 0"}, {"shape [[],[]]", "2 0"}, {"shape [[[]]]", "1 1 0"}, {"shape [[],[[]]]", "no"}, {"shape [[[]],[]]", "no"}, {"shape [[],[1]]", "no"}, {"shape [[[],[]],[[],[]]]", "2 2 0"},
		{"transpose []", "[]"}, {"transpose [[],[]]", "[]"}, {"pad []", "[]"}, {"pad [[],[]]", "[[],[]]"}, {"b []\ntimes []", "[]\n[]"}, {"b [[],[]]\ntimes []", "[[],[]]\n[[],[]]"}, {"b [[],[]]\ntimes [[]]", "[[],[]]\nno"},
		{"a []\nb []\narrays", "[]\n[]\n[] []"},
	})
}

func TestLinesOfShapes(t *testing.T) {
	expectEach(t, append(ofDocument, said{"b [[1,2],[3,4]]", "[[1,2],[3,4]]"}), []said{
		{"shape 7", "-"}, {"shape [1,2]", "2"}, {"shape [[1,2],[3,4],[5,6]]", "3 2"}, {"shape [[[1],[2]]]", "1 2 1"}, {"shape [[1],[2,3]]", "no"},
		{"transpose [[1,2,3],[4,5,6]]", "[[1,4],[2,5],[3,6]]"}, {"transpose [[1],[2]]", "[[1,2]]"}, {"transpose [[1],[]]", "no"},
		{"pad [[1,2],[],[3]]", "[[1,2],[0,0],[3,0]]"}, {"pad [[1]]", "[[1]]"}, {"pad [" + strings.Repeat("[],", 80) + "[1,2]]", "no"},
		{"times [[5],[6]]", "[[17],[39]]"}, {"times [[1,2],[3,4]]", "[[7,10],[15,22]]"}, {"times [[0,1],[1,0]]", "[[2,1],[4,3]]"}, {"times [[1,2]]", "no"}, {"times [[1],[2],[3]]", "no"}, {"times [[1],[]]", "no"},
		{"b [[1],[2,3]]\ntimes [[5],[6]]", "[[1],[2,3]]\nno"},
	})
	for _, rest := range []string{"", " ", "x", "1", "[1]", "[1,2]", "[[[]]]", "[[[1]]]", "[[[1,2],[3,4]]]", "[[1]", "[[1],2]", " [[1,2],[3,4]]", "[[1,2],[3,4]] ", "[[1,2], [3,4]]", "b", onesOf(401, 2)} {
		for _, word := range []string{"transpose", "pad", "times"} {
			expectSaid(t, []said{{"b [[1,2],[3,4]]", "[[1,2],[3,4]]"}, {word + " " + rest, "no"}, {"arrays", "[] [[1,2],[3,4]]"}})
		}
	}
}

// expectAnswers checks what lines that ask for a depth, for runs and for costs answer of a term.
func expectAnswers(t *testing.T, ahead []said, term string, answers ...string) {
	t.Helper()
	list := []said{}
	for i, line := range []string{
		"depth", "run", "flat", "work", "steps", "spread", "bylevel", "widths", "time 1", "time 1000", "hands 0", "hands 99999999999999999", "same " + term, "cheaper RR" + term,
	} {
		list = append(list, said{line, answers[i]})
	}
	expectEach(t, append(slices.Clone(ahead), said{"term " + term, term}), list)
}

func TestTermsThatGiveNothingAtTheDesk(t *testing.T) {
	for _, s := range []string{"x", "SS1", "Ca", "(a+b)", "[x:1>x]", "[x:[y:b>y]>(x+1)]", "(a@a)", "[x:[y:a>[z:b>b]]>x]"} {
		expectAnswers(t, ofDocument, s, "no", "wrong", "wrong", "no", "no", "no", "no", "no", "no", "no", "no", "no", "false", "false")
	}
	forty := []said{{"a " + ones(81), ones(81)}}
	expectAnswers(t, forty, "[x:a>[y:a>[z:a>x]]]", "3", "work", "work", "no", "no", "no", "no", "no", "no", "no", "no", "no", "false", "false")
	expectAnswers(t, forty, "S[x:a>S[y:a>S[z:a>1]]]", "0", "work", "work", "no", "no", "no", "no", "no", "no", "no", "no", "no", "false", "false")
	// What is too long has costs.
	expectAnswers(t, forty, "[x:a>a]", "2", "long", "long", "42", "3", "1600", "2 40", "1 40 40 1", "42", "3", "no", "1", "false", "false")
	expectAnswers(t, forty, "a", "1", ones(81), ones(81), "1", "1", "0", "1", "1", "1", "1", "no", "1", "true", "true")
	expectEach(t, append(forty, said{"term [x:a>a]", "[x:a>a]"}), []said{{"cheaper x", "false"}, {"same x", "false"}, {"hands 3", "40"}, {"hands 2", "no"}})
}

func TestWordsThatNeedARest(t *testing.T) {
	for _, word := range wordsWithRest {
		if word != "term" {
			expectEach(t, ofDocument, []said{{word + "\nterm\narrays", "what\n[x:b>Sx]\n[1,2] [[1,2],[],[3]]"}})
		}
		answer := "no"
		if word == "same" || word == "cheaper" {
			answer = "false"
		}
		for _, rest := range []string{"", " ", "  ", " a", "  [1]", " [[1]]", " 1", "a ", "1 ", "[1] ", "[[1]] ", "a [1]  [[1]]", "\t", "\r", "\x00", "\xff"} {
			expectEach(t, ofDocument, []said{{word + " " + rest + "\nterm\narrays", answer + "\n[x:b>Sx]\n[1,2] [[1,2],[],[3]]"}})
		}
	}
}

func TestWordsThatNeedNoRest(t *testing.T) {
	for _, word := range wordsWithoutRest {
		if word == "term" {
			continue
		}
		for _, rest := range []string{"", " ", "a", "1", "[1]", "[[1]]", "a S", " a", word} {
			expectEach(t, ofDocument, []said{{word + " " + rest + "\nterm\narrays", "what\n[x:b>Sx]\n[1,2] [[1,2],[],[3]]"}})
		}
	}
}

func TestLinesThatTheTableDoesNotHave(t *testing.T) {
	lines := []string{" ", "  ", "foo ", "foo a", "foo  ", " a [1]", "  a [1]", "b\t[[1]]", "term\ta", "A [1]", "T a", "K 1", "X a", "c [1]", "\x00", "\xff", "\r", "é", "a\tb"}
	lines = append(lines, strings.Fields("foo no what full long help c t x 1 [1] [[1,2],[],[3]] [x:b>Sx] ab ru runs ter terms array widest flatsteps sort reshape cut fill parts numbers sum size sign valid - | #")...)
	for _, word := range slices.Concat(wordsWithRest, wordsWithoutRest) {
		lines = append(lines, strings.ToUpper(word), strings.ToUpper(word[:1])+word[1:], " "+word, " "+word+" a", "\t"+word, word+"\t", word+"\ta", word+"\r", word+"\x00")
		lines = append(lines, word+",a", word+":", word+"_", word+"=1", word+"[1]", "no"+word, word+word, word+word+" a", word[1:], word[1:]+" 1", word[:len(word)-1]+"?")
	}
	for _, line := range lines {
		if line != "" {
			expectEach(t, ofDocument, []said{{line, "what"}, {line + "\nterm\narrays", "what\n[x:b>Sx]\n[1,2] [[1,2],[],[3]]"}})
		}
	}
}

// textsOfSigns returns all texts of up to so many of some signs.
func textsOfSigns(most int, signs string) []string {
	texts := []string{}
	for _, list := range listsUpTo(most, []byte(signs)...) {
		texts = append(texts, string(list))
	}
	return texts
}

func TestAllShortScripts(t *testing.T) {
	for _, script := range textsOfSigns(5, "a []b\n") {
		expectOutput(t, script, outputOf(strings.Split(script, "\n")))
	}
	for _, script := range textsOfSigns(2, "\n\r\x00\xff azAZ09[]") {
		expectOutput(t, script, outputOf(strings.Split(script, "\n")))
	}
}

func TestAllShortRests(t *testing.T) {
	for word, signs := range map[string]string{"term": "aSx1( ", "replace": "ax1S ", "a": "[]1,0", "b": "[]1, ", "time": "10-+ ", "hands": "19-+0", "same": "aRb ", "cheaper": "aRb ", "of": "aS1+ ", "layout": "[]1,", "fold": "01|- ", "shape": "[]1,", "transpose": "[]1,", "pad": "[]1,", "times": "[]1,"} {
		for _, rest := range textsOfSigns(5, signs) {
			lines := []string{"a [1]", "b [[],[]]", "term RRa", word + " " + rest, "arrays", "term"}
			expectOutput(t, joined(lines...), outputOf(lines))
		}
	}
}

// randomRest returns the rest of a line with a word, or of another one.
func randomRest(source *rand.Rand, word string) string {
	term := func() string {
		if source.Intn(8) == 0 {
			return randomPicture(source, 1+source.Intn(9)).text()
		}
		return randomOfDepth(source, scope{"a": 1, "b": 2}, source.Intn(4), 1+source.Intn(12)).text()
	}
	rows := randomRows(source, source.Intn(4), source.Intn(4))
	rests := map[string]func() string{
		"term":    term,
		"replace": func() string { return string(anyVariable[source.Intn(7)]) + " " + term() },
		"a":       func() string { return fewNumbers(source).text() },
		"b":       func() string { return fewLists(source).text() },
		"time":    func() string { return strconv.Itoa(source.Intn(12)) },
		"hands":   func() string { return strconv.Itoa(source.Intn(40)) },
		"same":    func() string { return "RR" + term() },
		"cheaper": term,
		"of":      func() string { return pictureOf(randomPicture(source, 1+source.Intn(9)).text()).code() },
		"layout":  func() string { return randomTree(source, source.Intn(4)).text() },
		"fold":    func() string { return formatted(randomTree(source, source.Intn(4)).layout()) },
		"shape":   func() string { return rowsTree(rows).text() },
		"times":   func() string { return rowsTree(rows).text() },
		"pad":     func() string { return fewLists(source).text() },
	}
	rests["transpose"] = rests["times"]
	if source.Intn(6) == 0 {
		word = wordsWithRest[source.Intn(len(wordsWithRest))]
	}
	return rests[word]()
}

// randomLine returns a line that is right, or almost, or an empty one.
func randomLine(source *rand.Rand) string {
	word := wordsWithRest[source.Intn(len(wordsWithRest))]
	switch kind := source.Intn(40); {
	case kind == 0:
		return ""
	case kind == 1:
		return word
	case kind == 2:
		return word + " " + strings.Repeat(" ", source.Intn(2))
	case kind == 3:
		return wordsWithoutRest[source.Intn(len(wordsWithoutRest))] + " " + randomRest(source, word)
	case kind == 4:
		return word[1:] + " " + randomRest(source, word)
	case kind < 18:
		return wordsWithoutRest[source.Intn(len(wordsWithoutRest))]
	case kind < 24:
		// So that the interpreter has something.
		word = []string{"term", "a", "b"}[kind%3]
	}
	return word + " " + randomRest(source, word)
}

func randomLines(source *rand.Rand, count int) []string {
	lines := []string{}
	for range count {
		lines = append(lines, randomLine(source))
	}
	return lines
}

func TestScriptsTellWhatTheFunctionsReturn(t *testing.T) {
	source := rand.New(rand.NewSource(41))
	outputs := map[string]map[string]int{}
	for range 1500 {
		lines := randomLines(source, 1+source.Intn(60))
		expectOutput(t, strings.Join(lines, "\n"), outputOf(lines))
		s := &scribe{"a", "[]", "[]"}
		for _, line := range lines {
			word, _, hasRest := strings.Cut(line, " ")
			key := fmt.Sprint(word, hasRest)
			if outputs[key] == nil {
				outputs[key] = map[string]int{}
			}
			outputs[key][s.output(line)]++
		}
	}
	for _, word := range wordsWithRest {
		expectAmong(t, word, outputs[word+"true"], word != "same" && word != "cheaper")
	}
	for _, word := range wordsWithoutRest {
		never := slices.Contains(strings.Fields("term simplify arrays free code rule rules heights levels run flat"), word)
		expectAmong(t, word, outputs[word+"false"], !never)
	}
}

// expectAmong checks that lines with a word had several outputs, and that some were refused if there are such lines.
func expectAmong(t *testing.T, word string, outputs map[string]int, mayBeRefused bool) {
	t.Helper()
	if len(outputs) < 2 || outputs["no"] < 20 && mayBeRefused || outputs["no"] > 0 && !mayBeRefused {
		t.Errorf("lines of %q have %d outputs, and %d were refused", word, len(outputs), outputs["no"])
	}
}

func TestAllLinesOfRandomTerms(t *testing.T) {
	source := rand.New(rand.NewSource(42))
	for round := range 1500 {
		p := randomOfDepth(source, scope{"a": 1, "b": 2}, round%4, 1+source.Intn(30))
		if round%10 == 0 {
			p = randomPicture(source, 1+source.Intn(12))
		}
		lines := []string{"term " + p.text(), "a " + fewNumbers(source).text(), "b " + fewLists(source).text()}
		for _, word := range []string{"time", "hands", "same", "cheaper", "times"} {
			lines = append(lines, word+" "+randomRest(source, word))
		}
		lines = slices.Concat(lines, wordsOfTerms, []string{"simplify", "term", "run", "work", "replace a Ra", "run", "replace b Rb", "flat"})
		expectOutput(t, joined(lines...), outputOf(lines))
	}
}

func TestLinesThatAreWrongChangeNothing(t *testing.T) {
	source := rand.New(rand.NewSource(43))
	wrong := 0
	for range 500 {
		lines := slices.DeleteFunc(randomLines(source, 40), func(line string) bool { return line == "" })
		right, want := []string{}, ""
		for i, answer := range strings.SplitAfter(impl.RunScript(joined(lines...)), "\n") {
			switch answer {
			case "":
			case "no\n", "what\n":
				wrong++
			default:
				right = append(right, lines[i])
				want += answer
			}
		}
		expectOutput(t, joined(right...), want)
	}
	if wrong < 2000 {
		t.Errorf("only %d lines were wrong", wrong)
	}
}

func TestOutputBeginsWithThatOfTheFirstLines(t *testing.T) {
	source := rand.New(rand.NewSource(44))
	expectFirstLines(t, strings.Split(strings.Repeat("arrays\n\nfoo\n", 40), "\n"))
	lines := []string{}
	for _, c := range example {
		lines = append(lines, c.line)
	}
	expectFirstLines(t, lines)
	script, _ := scriptWithOutput(40000)
	expectFirstLines(t, strings.Split(script+"term\nterm\nterm\n", "\n"))
	for range 30 {
		expectFirstLines(t, randomLines(source, 1+source.Intn(30)))
	}
	expectFirstLines(t, randomLines(source, 115))
}

func expectFirstLines(t *testing.T, lines []string) {
	t.Helper()
	whole := impl.RunScript(strings.Join(lines, "\n"))
	if whole != impl.RunScript(joined(lines...)) {
		t.Errorf("a newline behind the last line of %.99q makes another output", lines)
	}
	before := ""
	for count := range lines {
		first := strings.Join(lines[:count], "\n")
		output := impl.RunScript(first)
		if !strings.HasPrefix(whole, output) || !strings.HasPrefix(output, before) || output != impl.RunScript(first+"\n") {
			t.Errorf("the output %.99q of %.99q does not begin with that of its first %d lines", whole, lines, count)
		}
		before = output
	}
}

func TestScriptsOfAnyBytes(t *testing.T) {
	source := rand.New(rand.NewSource(45))
	for range 3000 {
		script := []byte(joined(randomLines(source, 1+source.Intn(6))...))
		for range source.Intn(8) {
			script[source.Intn(len(script))] = byte(source.Intn(256))
		}
		expectOutput(t, string(script), outputOf(strings.Split(string(script), "\n")))
	}
}

func TestScriptsAtOnceGiveTheSame(t *testing.T) {
	source := rand.New(rand.NewSource(46))
	lines := randomLines(source, 60)
	want := outputOf(lines)
	outputs := make([]string, 16)
	var scripts sync.WaitGroup
	for i := range outputs {
		scripts.Go(func() { outputs[i] = impl.RunScript(joined(lines...)) })
	}
	scripts.Wait()
	for _, output := range outputs {
		if output != want {
			t.Errorf("the output of the same script is %.99q and %.99q", output, want)
		}
	}
}
