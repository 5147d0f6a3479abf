package tests

import (
	"math"
	"math/rand"
	"slices"
	"strings"
	"testing"

	"loop.example/flatarrays/impl"
)

// instructions returns the instructions of a term.
func (p picture) instructions() []string {
	switch {
	case len(p.parts) == 0:
		return []string{p.sign}
	case len(p.parts) == 1:
		return append(p.parts[0].instructions(), p.sign)
	case p.bound == "":
		return append(append(p.parts[0].instructions(), p.parts[1].instructions()...), p.sign)
	default:
		list := append(p.parts[0].instructions(), p.sign+p.bound)
		return append(append(list, p.parts[1].instructions()...), map[string]string{"[": "]", "{": "}"}[p.sign])
	}
}

func (p picture) code() string { return strings.Join(p.instructions(), " ") }

// heights returns how many vectors there are behind each instruction, if there are some ahead.
func (p picture) heights(ahead int) []int {
	var list []int
	for i, part := range p.parts {
		if i == 1 && p.bound != "" {
			list = append(list, ahead+1)
		}
		list = append(list, part.heights(ahead+i)...)
	}
	return append(list, ahead+1)
}

// levelsAt returns within how many loops each instruction lies, if the term itself lies within some.
func (p picture) levelsAt(level int) []int {
	var list []int
	for i, part := range p.parts {
		if i == 1 && p.bound != "" {
			list = append(append(list, level), part.levelsAt(level+1)...)
		} else {
			list = append(list, part.levelsAt(level)...)
		}
	}
	return append(list, level)
}

// varsAt returns the variables in the second part of each loop by the index of the instruction that begins it, if there are some ahead.
func (p picture) varsAt(ahead int) map[int]string {
	vars := map[int]string{}
	for i, part := range p.parts {
		if i == 1 && p.bound != "" {
			vars[ahead] = part.variables()
			ahead++
		}
		for at, names := range part.varsAt(ahead) {
			vars[at] = names
		}
		ahead += len(part.instructions())
	}
	return vars
}

// variables returns all variables that stand somewhere in a term, also where they are bound.
func (p picture) variables() string {
	names, places := "", p.places("")
	for _, name := range strings.Split(anyVariable, "") {
		if slices.ContainsFunc(places, func(l leafPlace) bool { return l.sign == name }) {
			names += name
		}
	}
	return names
}

// expectCode checks what all functions return for a term and its code.
func expectCode(t *testing.T, p picture) {
	t.Helper()
	s, code := p.text(), p.code()
	if len(s) > 80 {
		expectNoCodeOf(t, s)
		expectNoCode(t, code)
		return
	}
	if got, ok := impl.CodeOf(s); got != code || !ok {
		t.Errorf("CodeOf(%q) = %q, %v, not %q", s, got, ok, code)
	}
	if got, ok := impl.TermOf(code); got != s || !ok || !impl.CodeValid(code) {
		t.Errorf("TermOf(%q) = %q, %v, not %q; CodeValid is %v", code, got, ok, s, impl.CodeValid(code))
	}
	if got := impl.InstructionsOf(code); !slices.Equal(got, p.instructions()) {
		t.Errorf("InstructionsOf(%q) = %q", code, got)
	}
	heights, ok := impl.HeightsOf(code)
	expectList(t, "HeightsOf "+code, heights, ok, p.heights(0))
	levels, ok := impl.LevelsAt(code)
	expectList(t, "LevelsAt "+code, levels, ok, p.levelsAt(0))
	if got, want := impl.DepthOfCode(code), p.depth("ab", []int{1, 2}); got != want {
		t.Errorf("DepthOfCode(%q) = %d, not %d", code, got, want)
	}
	vars := p.varsAt(0)
	for at := -2; at < len(p.instructions())+2; at++ {
		want, begins := vars[at]
		expectVars(t, code, at, want, begins)
	}
}

func expectVars(t *testing.T, code string, at int, want string, begins bool) {
	t.Helper()
	if got, ok := impl.VarsAt(code, at); got != want || ok != begins {
		t.Errorf("VarsAt(%q, %d) = %q, %v, not %q, %v", code, at, got, ok, want, begins)
	}
}

// expectNoCodeOf checks that a text has no code, since it is no term.
func expectNoCodeOf(t *testing.T, s string) {
	t.Helper()
	if got, ok := impl.CodeOf(s); got != "" || ok {
		t.Errorf("CodeOf(%q) = %q, %v", s, got, ok)
	}
}

// expectNoCode checks that no function takes a text as code.
func expectNoCode(t *testing.T, code string) {
	t.Helper()
	if got, ok := impl.TermOf(code); got != "" || ok || impl.CodeValid(code) || impl.DepthOfCode(code) != -1 {
		t.Errorf("%q is taken as code: of the term %q, %v, %v, of the depth %d", code, got, ok, impl.CodeValid(code), impl.DepthOfCode(code))
	}
	if got := impl.InstructionsOf(code); len(got) > 0 {
		t.Errorf("InstructionsOf(%q) = %q", code, got)
	}
	heights, ok := impl.HeightsOf(code)
	expectNoList(t, "HeightsOf "+code, heights, ok)
	levels, ok := impl.LevelsAt(code)
	expectNoList(t, "LevelsAt "+code, levels, ok)
	for _, at := range []int{math.MinInt, -1, 0, 1, 2, 3, 1000, math.MaxInt} {
		expectVars(t, code, at, "", false)
	}
}

// readBackwards returns the term with whose instructions a list ends, and the instructions ahead of them.
func readBackwards(list []string) (p picture, ahead []string, ok bool) {
	if len(list) == 0 || len(list[len(list)-1]) != 1 {
		return picture{}, nil, false
	}
	last, ahead := list[len(list)-1], list[:len(list)-1]
	if strings.Contains("0123456789"+anyVariable, last) {
		return leaf(last), ahead, true
	}
	q, ahead, ok := readBackwards(ahead)
	switch {
	case !ok:
		return picture{}, nil, false
	case strings.Contains(signsBefore, last):
		return before(last, q), ahead, true
	case strings.Contains(signsBetween, last):
		p, ahead, ok = readBackwards(ahead)
		return between(last, p, q), ahead, ok
	case strings.Contains("]}", last) && len(ahead) > 0:
		begin := ahead[len(ahead)-1]
		for _, bound := range strings.Split(loopVariable, "") {
			if first := map[string]string{"]": "[", "}": "{"}[last]; begin == first+bound {
				p, ahead, ok = readBackwards(ahead[:len(ahead)-1])
				return looped(first, bound, p, q), ahead, ok
			}
		}
	}
	return picture{}, nil, false
}

// pictureOfCode returns the term whose code a text is, if there is one.
func pictureOfCode(code string) (picture, bool) {
	p, ahead, ok := readBackwards(strings.Split(code, " "))
	return p, ok && len(ahead) == 0 && len(p.text()) <= 80
}

// expectAsRead checks what all functions return for a text, which may be code.
func expectAsRead(t *testing.T, code string) bool {
	t.Helper()
	p, ok := pictureOfCode(code)
	if !ok {
		expectNoCode(t, code)
		return false
	}
	expectCode(t, p)
	return true
}

func TestLimitOfCode(t *testing.T) {
	if impl.MaxCode != 200 {
		t.Errorf("MaxCode is %d", impl.MaxCode)
	}
}

// A coded is a term, its code, and what is found at each of its instructions.
type coded struct {
	s, code         string
	heights, levels []int
}

func expectCoded(t *testing.T, list []coded) {
	t.Helper()
	for _, c := range list {
		if got, ok := impl.CodeOf(c.s); got != c.code || !ok {
			t.Errorf("CodeOf(%q) = %q, %v, not %q", c.s, got, ok, c.code)
		}
		if got, ok := impl.TermOf(c.code); got != c.s || !ok || !impl.CodeValid(c.code) {
			t.Errorf("TermOf(%q) = %q, %v, not %q", c.code, got, ok, c.s)
		}
		if got := impl.InstructionsOf(c.code); len(got) != len(c.heights) || strings.Join(got, " ") != c.code {
			t.Errorf("InstructionsOf(%q) = %q", c.code, got)
		}
		heights, ok := impl.HeightsOf(c.code)
		expectList(t, "HeightsOf "+c.code, heights, ok, c.heights)
		levels, ok := impl.LevelsAt(c.code)
		expectList(t, "LevelsAt "+c.code, levels, ok, c.levels)
		if got, want := impl.DepthOfCode(c.code), impl.DepthOfTerm(c.s); got != want {
			t.Errorf("DepthOfCode(%q) = %d, not %d", c.code, got, want)
		}
	}
}

func TestCodeOfEachSign(t *testing.T) {
	expectCoded(t, []coded{
		{"0", "0", []int{1}, []int{0}},
		{"9", "9", []int{1}, []int{0}},
		{"a", "a", []int{1}, []int{0}},
		{"z", "z", []int{1}, []int{0}},
		{"Sa", "a S", []int{1, 1}, []int{0, 0}},
		{"Ma", "a M", []int{1, 1}, []int{0, 0}},
		{"I3", "3 I", []int{1, 1}, []int{0, 0}},
		{"Nb", "b N", []int{1, 1}, []int{0, 0}},
		{"Rb", "b R", []int{1, 1}, []int{0, 0}},
		{"Cb", "b C", []int{1, 1}, []int{0, 0}},
		{"Pa", "a P", []int{1, 1}, []int{0, 0}},
		{"SRCb", "b C R S", []int{1, 1, 1, 1}, []int{0, 0, 0, 0}},
		{"(1+2)", "1 2 +", []int{1, 2, 1}, []int{0, 0, 0}},
		{"(1*2)", "1 2 *", []int{1, 2, 1}, []int{0, 0, 0}},
		{"(1^2)", "1 2 ^", []int{1, 2, 1}, []int{0, 0, 0}},
		{"(1-2)", "1 2 -", []int{1, 2, 1}, []int{0, 0, 0}},
		{"(2-1)", "2 1 -", []int{1, 2, 1}, []int{0, 0, 0}},
		{"(1=2)", "1 2 =", []int{1, 2, 1}, []int{0, 0, 0}},
		{"(1<2)", "1 2 <", []int{1, 2, 1}, []int{0, 0, 0}},
		{"(a@2)", "a 2 @", []int{1, 2, 1}, []int{0, 0, 0}},
		{"((1+2)*3)", "1 2 + 3 *", []int{1, 2, 1, 2, 1}, []int{0, 0, 0, 0, 0}},
		{"(1+(2*3))", "1 2 3 * +", []int{1, 2, 3, 2, 1}, []int{0, 0, 0, 0, 0}},
		{"(Sa+I(1-2))", "a S 1 2 - I +", []int{1, 1, 2, 3, 2, 2, 1}, []int{0, 0, 0, 0, 0, 0, 0}},
		{"[x:b>Sx]", "b [x x S ]", []int{1, 1, 2, 2, 1}, []int{0, 0, 1, 1, 0}},
		{"{x:b>Sx}", "b {x x S }", []int{1, 1, 2, 2, 1}, []int{0, 0, 1, 1, 0}},
		{"{v:a>1}", "a {v 1 }", []int{1, 1, 2, 1}, []int{0, 0, 1, 0}},
	})
}

func TestCodeOfLoopsWithinLoops(t *testing.T) {
	expectCoded(t, []coded{
		{"[x:[y:b>Ry]>Sx]", "b [y y R ] [x x S ]", []int{1, 1, 2, 2, 1, 1, 2, 2, 1}, []int{0, 0, 1, 1, 0, 0, 1, 1, 0}},
		{"[x:b>[y:x>(y+Nx)]]", "b [x x [y y x N + ] ]", []int{1, 1, 2, 2, 3, 4, 4, 3, 2, 1}, []int{0, 0, 1, 1, 2, 2, 2, 2, 1, 0}},
		{"{x:b>S{y:x>(y<2)}}", "b {x x {y y 2 < } S }", []int{1, 1, 2, 2, 3, 4, 3, 2, 2, 1}, []int{0, 0, 1, 1, 2, 2, 2, 1, 1, 0}},
		{"[x:{x:b>Nx}>{x:x>x}]", "b {x x N } [x x {x x } ]", []int{1, 1, 2, 2, 1, 1, 2, 2, 3, 2, 1}, []int{0, 0, 1, 1, 0, 0, 1, 1, 2, 1, 0}},
		{"(S[x:a>1]+N{y:b>2})", "a [x 1 ] S b {y 2 } N +", []int{1, 1, 2, 1, 1, 2, 2, 3, 2, 2, 1}, []int{0, 0, 1, 0, 0, 0, 0, 1, 0, 0, 0}},
		{"[w:[x:[y:a>1]>2]>3]", "a [y 1 ] [x 2 ] [w 3 ]", []int{1, 1, 2, 1, 1, 2, 1, 1, 2, 1}, []int{0, 0, 1, 0, 0, 1, 0, 0, 1, 0}},
		{"[w:a>[x:a>[y:a>1]]]", "a [w a [x a [y 1 ] ] ]", []int{1, 1, 2, 2, 3, 3, 4, 3, 2, 1}, []int{0, 0, 1, 1, 2, 2, 3, 2, 1, 0}},
		{"[x:a>([y:a>x]@1)]", "a [x a [y x ] 1 @ ]", []int{1, 1, 2, 2, 3, 2, 3, 2, 1}, []int{0, 0, 1, 1, 2, 1, 1, 1, 0}},
		{"(1+S[x:a>(2+x)])", "1 a [x 2 x + ] S +", []int{1, 2, 2, 3, 4, 3, 2, 2, 1}, []int{0, 0, 0, 1, 1, 1, 0, 0, 0}},
	})
}

// A term may have code although it gives nothing, since a part has another depth than it is to have.
func TestCodeOfTermsThatGiveNothing(t *testing.T) {
	expectCoded(t, []coded{
		{"x", "x", []int{1}, []int{0}},
		{"S1", "1 S", []int{1, 1}, []int{0, 0}},
		{"(a+b)", "a b +", []int{1, 2, 1}, []int{0, 0, 0}},
		{"[x:1>y]", "1 [x y ]", []int{1, 1, 2, 1}, []int{0, 0, 1, 0}},
		{"[x:x>x]", "x [x x ]", []int{1, 1, 2, 1}, []int{0, 0, 1, 0}},
	})
	for _, code := range []string{"x", "1 S", "a b +", "1 [x y ]", "x [x x ]", "b [x x ] x @"} {
		if !impl.CodeValid(code) || impl.DepthOfCode(code) != -1 {
			t.Errorf("%q has the depth %d", code, impl.DepthOfCode(code))
		}
	}
}

func TestTextsThatHaveNoCode(t *testing.T) {
	for _, s := range []string{
		"", " ", "q", "S", "ab", "12", "a ", " a", "(a+b", "a+b", "[x:b>1", "[x:b>1}", "[a:b>1]", "a S", "b [x x S ]", "1 2 +", "\x00", "\xff", "é",
		strings.Repeat("S", 80) + "a", strings.Repeat("S", 1000000), strings.Repeat("(1+", 27) + "1" + strings.Repeat(")", 27),
	} {
		expectNoCodeOf(t, s)
	}
}

func TestInstructionsOfOneByte(t *testing.T) {
	for c := range 256 {
		s := string([]byte{byte(c)})
		for _, as := range []struct{ begin, end, right string }{
			{"", "", "0123456789" + anyVariable}, {"1 ", " +", "0123456789" + anyVariable}, {"a [x ", " ]", "0123456789" + anyVariable},
			{"a ", "", signsBefore}, {"a b ", "", signsBetween}, {"a [x x ", " ]", signsBefore}, {"a [x 1 2 ", " ]", signsBetween},
			{"a [", " 1 ]", loopVariable}, {"a {", " 1 }", loopVariable}, {"a ", "x 1 ]", "["}, {"a ", "x 1 }", "{"},
			{"a [x 1 ", "", "]"}, {"a {x 1 ", "", "}"}, {"a", "S", " "}, {"a [x", "1 ]", " "}, {"a b ", "S", ""}, {"a", "", ""}, {"", "a", ""},
			{"a [x", " 1 ]", ""}, {"a [x 1 ]", "", ""}, {"a S", "", ""}, {"a ", "S", ""}, {"1 2 +", "", ""}, {"a ", "[x 1 ]", ""}, {"a [x 1 ", "]", ""},
		} {
			code := as.begin + s + as.end
			if valid := strings.Contains(as.right, s); expectAsRead(t, code) != valid {
				t.Errorf("%q is to be code: %v", code, valid)
			}
		}
	}
}

func TestInstructionsOfMoreBytes(t *testing.T) {
	for _, code := range []string{
		"12", "aa", "ab", "a1", "1a", "00", "-1", "1 22 +", "a SS", "a SR", "b CS", "Sa", "a aS", "1 2 ++", "1 2 <=", "1 2+", "1+ 2", "1 2 +1", "(1+2)", "1 2 (+)",
		"a [xy 1 ]", "a [xx 1 ]", "a [[x 1 ]", "a [x[ 1 ]", "a x[ 1 ]", "a [x: 1 ]", "a [x 1 ]]", "a [x 1 ]x", "a [x 1 x]", "a [x 1 [x]", "a {xx 1 }", "a {x 1 }}", "a {{x 1 }", "a [x] 1 ]", "a [ 1 ]", "a [ x 1 ]", "a { 1 }",
		"a [x1 ]", "a [x 1]", "a[x 1 ]", "b [x xS ]", "[x:b>Sx]", "\u00e9", "a \u00df", "\uff11", "a\u00a0S", "1 2 \u2212", "a [\u00e9 1 ]", "a \u301ax 1 ]",
	} {
		expectNoCode(t, code)
	}
}

func TestVariablesThatMayNotBeBound(t *testing.T) {
	for c := range 256 {
		s := string([]byte{byte(c)})
		valid := strings.Contains(loopVariable, s)
		for _, code := range []string{"a [" + s + " 1 ]", "a {" + s + " 1 }", "b [x x {" + s + " 1 } ]", "a [" + s + " 1 ] [x x ]"} {
			if expectAsRead(t, code) != valid {
				t.Errorf("%q is to be code: %v", code, valid)
			}
		}
	}
	for _, code := range []string{"a [a a ]", "b [b b ]", "a [a 1 ]", "b {b 1 }", "a [u 1 ]", "a [1 1 ]", "a [S 1 ]", "a [+ 1 ]", "a [[ 1 ]", "a []", "a {}", "a [] 1 ]"} {
		expectNoCode(t, code)
	}
}

func TestSpacesBetweenInstructions(t *testing.T) {
	for _, code := range []string{"a", "a S", "1 2 +", "b [x x S ]", "a {x x 3 < }", "b [x x [y y x N + ] ]"} {
		if !expectAsRead(t, code) {
			t.Errorf("%q is not taken as code", code)
		}
		for i := range len(code) + 1 {
			for _, other := range []string{"", " ", "  ", "\t", "\n", "\r", "\x00", ",", "\u00a0"} {
				if other != "" {
					expectNoCode(t, code[:i]+other+code[i:])
				}
				if other != " " && i < len(code) && code[i] == ' ' {
					expectNoCode(t, code[:i]+other+code[i+1:])
				}
			}
		}
	}
	for _, code := range []string{"", " ", "  ", "   ", " a", "a ", " a ", "a  S", "a   S", "a\tS", "a\n", "\na"} {
		expectNoCode(t, code)
	}
}

func TestLoopsThatDoNotEnd(t *testing.T) {
	for _, code := range []string{
		"a [", "a [x", "a [x x", "a {x x", "a [x x S", "a [x [x", "a [x x [y", "a [x x [y y", "a [x x [y y ]", "a {x x [y y ]", "a [x x S b [y y ]", "[x", "{x", "a [x 1 a S",
		"a [x x }", "a {x x ]", "a [x x )", "a [x x >", "b [x x {y y ] }", "b {x x [y y } ]", "b [x x {y y ] ]", "b [x x [y y } ]", "b {x x {y y } ]", "b [x x [y y ] }", "b [x x ] {y y ]",
		"]", "}", "a ]", "a }", "a 1 ]", "1 a ]", "a b }", "a S ]", "a [x x ] ]", "a [x x ] }", "a {x x } }", "a [x x ] 1 ]", "1 a [x x ] ]", "] a", "] a [x 1 ]", "a ] [x 1 ]", "a x ] [x",
	} {
		expectNoCode(t, code)
	}
}

// Instructions within a loop do not take what was put onto the stack outside.
func TestStacksThatAreNotHighEnoughWithinALoop(t *testing.T) {
	for _, code := range []string{
		"a [x S ]", "a [x S x ]", "1 a [x S ]", "1 a [x S x ] +", "a [x x + ]", "1 a [x x + ]", "1 a [x x + ] +", "1 a [x + ]", "1 2 a [x + ]", "1 a [x x + x ]", "1 2 3 a [x x x + + ]",
		"a [x ]", "1 a [x ]", "1 2 a [x ] +", "a {x }", "a [x ] x", "b [x [y y ] ]", "a b [x [y y ] ]", "a b [x [y y ] x ]", "a b [x {y y } ] @", "b [x x [y S ] ]", "b [x x [y x + ] ]", "b [x x x [y x + ] ]",
		"b [x 1 x [y y + ] ]", "1 b [x x [y y ] + ]", "1 a [x 2 ] + +", "a [x 1 ] +", "a [x 1 2 + + ]",
	} {
		expectNoCode(t, code)
	}
}

func TestMoreOrLessThanOneVectorIsLeft(t *testing.T) {
	for _, code := range []string{
		"S", "+", "S a", "+ 1 2", "1 + 2", "1 +", "a b", "1 2", "1 2 3", "1 2 3 +", "1 2 + 3", "a b S", "1 2 + +", "a [x x ] b", "b a [x x ]", "a [x x ] [y y ] 1",
		"a [x 1 2 ]", "a [x x x ]", "a [x 1 2 3 + ]", "a {x 1 2 }", "b [x x [y y ] x ]", "b [x x x [y y ] ]", "b [x x [y y y ] ]", "a b [x x ]", "a [x 1 2 ] +", "a [x 1 2 ] S", "[x x ]", "[x x", "{x 1 }", "[x 1 ] S",
	} {
		expectNoCode(t, code)
	}
}

func TestVarsAt(t *testing.T) {
	for _, c := range []struct {
		code, want string
		at         int
	}{
		{"b [x x S ]", "x", 1},
		{"b {x x S }", "x", 1},
		{"b [x a ]", "a", 1},
		{"b [x 1 ]", "", 1},
		{"a {v 1 2 + }", "", 1},
		{"z [x 1 ] y +", "", 1},
		{"b [x x [y y x N + ] ]", "xy", 1},
		{"b [x x [y y x N + ] ]", "xy", 3},
		{"b [x x [y 1 ] ]", "x", 1},
		{"b [x x [y 1 ] ]", "", 3},
		{"b [x a [y 1 ] ]", "a", 1},
		{"b [x 1 [y 1 ] ]", "", 1},
		{"b [x y [y z ] ]", "yz", 1},
		{"b [x y [y z ] ]", "z", 3},
		{"b [x [y z ] ]", "", 1},
		{"b [y y ] [x w ]", "w", 4},
		{"b [y y ] [x w ]", "y", 1},
		{"b [x x {x x } ]", "x", 1},
		{"b [x x {x x } ]", "x", 3},
		{"b [x 1 {x x } ]", "x", 1},
		{"b [x x {x 1 } ]", "", 3},
		{"a [x z y + x + w + v + b + a + ]", "abvwxyz", 1},
		{"a [x x x + x x + + ]", "x", 1},
		{"a [x x y + y x + + ]", "xy", 1},
		{"a [x y x + x y + + ]", "xy", 1},
		{"x [x [y y ] ]", "", 1},
		{"a [x x S ] S b [y y N ] S +", "x", 1},
		{"a [x x S ] S b [y y N ] S +", "y", 7},
		{"a [x b {y z } N ]", "bz", 1},
		{"a [x b {y z } v + ]", "bvz", 1},
		{"a [x b {y z } v + ]", "z", 3},
	} {
		_, begins := pictureOfCode(c.code)
		expectVars(t, c.code, c.at, c.want, begins)
	}
}

func TestVarsAtOtherInstructions(t *testing.T) {
	code := "b [x x {y y x N < } R ]"
	begins := map[int]string{1: "xy", 3: "xy"}
	for at := -15; at < 30; at++ {
		want, ok := begins[at]
		expectVars(t, code, at, want, ok)
	}
	for _, at := range []int{math.MinInt, math.MinInt + 1, -1 << 32, -10, 10, 11, 1 << 32, 1<<32 + 1, math.MaxInt - 1, math.MaxInt} {
		expectVars(t, code, at, "", false)
		expectVars(t, "a", at, "", false)
	}
	expectVars(t, "a", 0, "", false)
	// A text that is no code has no loop, even if one seems to begin there.
	for _, other := range []string{"a [x x", "a [x x }", "a [x x ] ", " a [x x ]", "a [a a ]", "a [x x x ]", "a [x x ] a", "[x x ]", "a  [x x ]", ""} {
		for at := -1; at < 6; at++ {
			expectVars(t, other, at, "", false)
		}
	}
}

// withCodeOf returns a term that would have code of so many bytes.
func withCodeOf(size int) picture {
	p := leaf("a")
	if size%2 == 0 {
		p = looped("[", "x", p, leaf("1"))
	}
	for len(p.code()) < size {
		p = before("R", p)
	}
	return p
}

func TestCodeToTheLimits(t *testing.T) {
	// A term of MaxTerm bytes has code of at most 159 bytes, so that code is never as long as MaxCode.
	for size := 1; size <= 500; size++ {
		p := withCodeOf(max(size, 8-7*(size%2)))
		if len(p.text()) <= 80 && len(p.code()) > 159 {
			t.Errorf("%q has code of %d bytes", p.text(), len(p.code()))
		}
		expectCode(t, p)
	}
	for _, size := range []int{199, 200, 201, 202} {
		code := withCodeOf(size).code()
		if len(code) != size {
			t.Errorf("%q has %d bytes, not %d", code, len(code), size)
		}
		expectNoCode(t, code)
	}
	if code, ok := impl.CodeOf(strings.Repeat("R", 79) + "b"); code != "b"+strings.Repeat(" R", 79) || !ok {
		t.Errorf("CodeOf of the longest signs = %q, %v", code, ok)
	}
}

func TestCodeOfLongTerms(t *testing.T) {
	for _, size := range []int{10, 77, 78, 79, 80, 81, 82, 83, 100, 120, 200, 400} {
		for _, p := range longTerms(size) {
			if len(p.text()) != size {
				t.Errorf("%q has %d bytes, not %d", p.text(), len(p.text()), size)
			}
			expectCode(t, p)
		}
	}
	// All of these have code of at most MaxCode bytes, but terms that are just long enough or too long.
	for size := 74; size <= 86; size++ {
		for _, p := range longTerms(size) {
			if len(p.code()) > 200 {
				t.Errorf("%q has code of %d bytes", p.text(), len(p.code()))
			}
			if got := impl.CodeValid(p.code()); got != (size <= 80) {
				t.Errorf("CodeValid(%q) = %v, of a term of %d bytes", p.code(), got, size)
			}
		}
	}
	for _, text := range []string{"a ", " ", "a S ", "S ", "1 [x ", "[x", "] ", "a", "\x00"} {
		expectNoCode(t, strings.Repeat(text, 200/len(text)))
		expectNoCode(t, strings.Repeat(text, 200/len(text)+1))
		expectNoCode(t, strings.Repeat(text, 100000))
	}
	expectNoCode(t, "a"+strings.Repeat(" S", 1000000))
}

func TestAllSmallTermsHaveCode(t *testing.T) {
	for _, list := range picturesUpTo(11) {
		for _, p := range list {
			expectCode(t, p)
		}
	}
}

func TestAllShortTextsAsCode(t *testing.T) {
	valid := 0
	texts := []string{"a", "1", "S", "@", "[x", "{y", "]", "}", "", "x "}
	for length := 1; length <= 6; length++ {
		var longer []string
		for _, code := range texts {
			p, ok := pictureOfCode(code)
			if ok {
				valid++
				expectCode(t, p)
			} else if got, taken := impl.TermOf(code); taken || got != "" {
				t.Errorf("TermOf(%q) = %q, %v", code, got, taken)
			} else if length < 4 {
				expectNoCode(t, code)
			}
			if length < 6 {
				for _, in := range []string{"x", "S", "@", "[x", "{y", "]", "}"} {
					longer = append(longer, code+" "+in)
				}
			}
		}
		texts = longer
	}
	if valid < 50 {
		t.Errorf("only %d texts are code", valid)
	}
}

// What text is code is told by each single change of it as well.
func TestChangedCode(t *testing.T) {
	source := rand.New(rand.NewSource(71))
	others := []string{"a", "x", "1", "S", "N", "@", "+", "[x", "[y", "{x", "]", "}", "", "q"}
	valid, all := 0, 0
	expect := func(list ...[]string) {
		all++
		if expectAsRead(t, strings.Join(slices.Concat(list...), " ")) {
			valid++
		}
	}
	for range 1000 {
		list := randomPicture(source, 1+source.Intn(15)).instructions()
		for i := range list {
			expect(list[:i], list[i+1:])
			expect(list[:i], list[i:i+1], list[i:])
			in := others[source.Intn(len(others))]
			expect(list[:i], []string{in}, list[i:])
			expect(list[:i], []string{in}, list[i+1:])
			j := source.Intn(len(list))
			swapped := slices.Clone(list)
			swapped[i], swapped[j] = swapped[j], swapped[i]
			expect(swapped)
		}
	}
	if valid < 1000 || all-valid < 1000 {
		t.Errorf("%d of %d texts are code", valid, all)
	}
}

func TestRandomTextsAsCode(t *testing.T) {
	source := rand.New(rand.NewSource(72))
	for range 20000 {
		code := []byte(randomPicture(source, 1+source.Intn(20)).code())
		for range 1 + source.Intn(3) {
			code[source.Intn(len(code))] = byte(source.Intn(256))
		}
		expectAsRead(t, string(code))
	}
}

func TestTermsHaveCodeAndCodeItsTerm(t *testing.T) {
	source := rand.New(rand.NewSource(73))
	long := 0
	for range 10000 {
		p := randomPicture(source, 1+source.Intn(40))
		expectCode(t, p)
		if len(p.text()) > 80 && len(p.code()) <= 200 {
			long++
		}
	}
	if long < 500 {
		t.Errorf("only %d terms were too long for their code", long)
	}
}

func TestCodeOfTermsMadeToHaveADepth(t *testing.T) {
	source := rand.New(rand.NewSource(74))
	for round := range 20000 {
		depth := round % 4
		p := randomOfDepth(source, scope{"a": 1, "b": 2}, depth, 1+source.Intn(40))
		expectCode(t, p)
		if len(p.text()) > 80 {
			continue
		}
		if got := impl.DepthOfCode(p.code()); got != depth {
			t.Errorf("DepthOfCode(%q) = %d, not %d", p.code(), got, depth)
		}
		if got := len(impl.InstructionsOf(p.code())); got < impl.SizeOfTerm(p.text()) {
			t.Errorf("%q has %d instructions of %d terms", p.code(), got, impl.SizeOfTerm(p.text()))
		}
	}
}

func TestListsOfCodeAreNewMemory(t *testing.T) {
	for _, code := range []string{"a", "a S", "b [x x S ]", "b [x x [y y x N + ] ]"} {
		texts, sameTexts := impl.InstructionsOf(code), impl.InstructionsOf(code)
		heights, _ := impl.HeightsOf(code)
		levels, _ := impl.LevelsAt(code)
		wantTexts, wantHeights, wantLevels := slices.Clone(texts), slices.Clone(heights), slices.Clone(levels)
		texts, heights, levels = texts[:cap(texts)], heights[:cap(heights)], levels[:cap(levels)]
		for i := range texts {
			texts[i] = "changed"
		}
		for i := range heights {
			heights[i] = -7
		}
		if !slices.Equal(levels[:len(wantLevels)], wantLevels) {
			t.Errorf("LevelsAt(%q) shares memory with HeightsOf", code)
		}
		for i := range levels {
			levels[i] = -8
		}
		if !slices.Equal(sameTexts, wantTexts) || !slices.Equal(impl.InstructionsOf(code), wantTexts) {
			t.Errorf("InstructionsOf(%q) keeps memory: %q", code, sameTexts)
		}
		again, ok := impl.HeightsOf(code)
		expectList(t, "HeightsOf "+code, again, ok, wantHeights)
		again, ok = impl.LevelsAt(code)
		expectList(t, "LevelsAt "+code, again, ok, wantLevels)
	}
}
