package tests

import (
	"fmt"
	"math/rand"
	"regexp"
	"slices"
	"strings"
	"testing"

	"loop.example/flatarrays/impl"
)

const (
	anyVariable  = "abvwxyz"
	loopVariable = "vwxyz"
	signsBefore  = "SMINRCP"
	signsBetween = "+*^-=<@"
)

// A picture is the tests' own picture of a term: its sign, the variable if it is a loop, and its parts.
type picture struct {
	sign  string
	bound string
	parts []picture
}

func leaf(sign string) picture                  { return picture{sign: sign} }
func before(sign string, p picture) picture     { return picture{sign, "", []picture{p}} }
func between(sign string, p, q picture) picture { return picture{sign, "", []picture{p, q}} }
func looped(sign, bound string, p, q picture) picture {
	return picture{sign, bound, []picture{p, q}}
}

func (p picture) text() string {
	switch {
	case len(p.parts) == 0:
		return p.sign
	case len(p.parts) == 1:
		return p.sign + p.parts[0].text()
	case p.bound == "":
		return "(" + p.parts[0].text() + p.sign + p.parts[1].text() + ")"
	default:
		last := "]"
		if p.sign == "{" {
			last = "}"
		}
		return p.sign + p.bound + ":" + p.parts[0].text() + ">" + p.parts[1].text() + last
	}
}

// A leafPlace is a digit or variable somewhere in a term, with the variables of the loops in whose second parts it lies.
type leafPlace struct {
	sign   string
	within string
}

func (l leafPlace) isFree() bool {
	return strings.Contains(anyVariable, l.sign) && !strings.Contains(l.within, l.sign)
}

func (p picture) places(within string) []leafPlace {
	if len(p.parts) == 0 {
		return []leafPlace{{p.sign, within}}
	}
	list := p.parts[0].places(within)
	if len(p.parts) == 2 {
		list = append(list, p.parts[1].places(within+p.bound)...)
	}
	return list
}

func (p picture) free() string {
	free := ""
	for _, name := range strings.Split(anyVariable, "") {
		if slices.ContainsFunc(p.places(""), func(l leafPlace) bool { return l.sign == name && l.isFree() }) {
			free += name
		}
	}
	return free
}

func (p picture) size() int {
	size := 1
	for _, part := range p.parts {
		size += part.size()
	}
	return size
}

func (p picture) levels() int {
	levels := 0
	for _, l := range p.places("") {
		levels = max(levels, len(l.within))
	}
	return levels
}

// depthsOfSigns has, for each sign before a part, the depth that it gives of each depth from 0 on.
var depthsOfSigns = map[string][]int{
	"S": {-1, 0, -1, -1},
	"M": {-1, 0, -1, -1},
	"I": {1, -1, -1, -1},
	"N": {-1, 0, 0, 0},
	"R": {-1, 1, 2, 3},
	"C": {-1, -1, 1, 2},
	"P": {-1, 1, -1, -1},
}

// depth returns the depth where the variables of names, of which the last one counts, have depths.
func (p picture) depth(names string, depths []int) int {
	if len(p.parts) == 0 {
		if at := strings.LastIndex(names, p.sign); at >= 0 {
			return depths[at]
		}
		if strings.Contains("0123456789", p.sign) {
			return 0
		}
		return -1
	}
	first := p.parts[0].depth(names, depths)
	if first < 0 {
		return -1
	}
	if len(p.parts) == 1 {
		return depthsOfSigns[p.sign][first]
	}
	if p.bound != "" {
		names, depths = names+p.bound, append(slices.Clone(depths), first-1)
	}
	second := p.parts[1].depth(names, depths)
	switch fmt.Sprintf("%s%d%d", p.sign, first, second) {
	case "+00", "*00", "^00", "-00", "=00", "<00", "@10":
		return 0
	case "[10", "[20", "[30", "{10":
		return 1
	case "[11", "[21", "[31", "{20":
		return 2
	case "[12", "[22", "[32", "{30":
		return 3
	}
	return -1
}

// replaced returns the text with u in place of v, and whether u may come in wherever it does.
func (p picture) replaced(v string, u picture, within string) (string, bool) {
	if p.sign == v && !strings.Contains(within, v) {
		return u.text(), !strings.ContainsAny(u.free(), within)
	}
	if len(p.parts) == 0 {
		return p.sign, true
	}
	marked, all := p, true
	marked.parts = nil
	for i, part := range p.parts {
		inner := within
		if i == 1 {
			inner += p.bound
		}
		text, ok := part.replaced(v, u, inner)
		marked.parts = append(marked.parts, leaf(text))
		all = all && ok
	}
	return marked.text(), all
}

// expectTerm checks what all functions of one term return for it.
func expectTerm(t *testing.T, p picture) {
	t.Helper()
	s := p.text()
	if len(s) > 80 {
		expectNoTerm(t, s)
		return
	}
	if !impl.TermValid(s) {
		t.Errorf("%q is not taken as a term", s)
	}
	parts := []string{}
	for _, part := range p.parts {
		parts = append(parts, part.text())
	}
	if got := impl.PartsOfTerm(s); !slices.Equal(got, parts) {
		t.Errorf("PartsOfTerm(%q) = %q, not %q", s, got, parts)
	}
	if got := impl.SignOf(s); got != p.sign {
		t.Errorf("SignOf(%q) = %q, not %q", s, got, p.sign)
	}
	if got := impl.FreeVars(s); got != p.free() {
		t.Errorf("FreeVars(%q) = %q, not %q", s, got, p.free())
	}
	if got := impl.SizeOfTerm(s); got != p.size() {
		t.Errorf("SizeOfTerm(%q) = %d, not %d", s, got, p.size())
	}
	if got := impl.LevelsOf(s); got != p.levels() {
		t.Errorf("LevelsOf(%q) = %d, not %d", s, got, p.levels())
	}
	expectDepth(t, s, p.depth("ab", []int{1, 2}))
}

func expectDepth(t *testing.T, s string, want int) {
	t.Helper()
	if got := impl.DepthOfTerm(s); got != want {
		t.Errorf("DepthOfTerm(%q) = %d, not %d", s, got, want)
	}
	if got := impl.IsFunction(s); got != (want >= 0) {
		t.Errorf("IsFunction(%q) = %v", s, got)
	}
}

// expectNoTerm checks that no function takes a text as a term.
func expectNoTerm(t *testing.T, s string) {
	t.Helper()
	if impl.TermValid(s) || impl.IsFunction(s) || impl.DepthOfTerm(s) != -1 || impl.SizeOfTerm(s) != -1 || impl.LevelsOf(s) != -1 {
		t.Errorf("%q is taken as a term: %v, depth %d, size %d, levels %d", s, impl.TermValid(s), impl.DepthOfTerm(s), impl.SizeOfTerm(s), impl.LevelsOf(s))
	}
	if parts := impl.PartsOfTerm(s); len(parts) > 0 || impl.SignOf(s) != "" || impl.FreeVars(s) != "" {
		t.Errorf("%q has the parts %q, the sign %q and the variables %q", s, parts, impl.SignOf(s), impl.FreeVars(s))
	}
	for _, v := range []string{"a", "x", "z"} {
		expectReplaced(t, s, v, "a", "")
		expectReplaced(t, s, v, s, "")
		expectReplaced(t, "a", v, s, "")
		expectReplaced(t, "[x:b>Sx]", v, s, "")
	}
}

// expectReplaced checks what ReplaceVar returns: a text, or nothing if that is empty.
func expectReplaced(t *testing.T, s, v, u, want string) {
	t.Helper()
	if got, ok := impl.ReplaceVar(s, v, u); got != want || ok != (want != "") {
		t.Errorf("ReplaceVar(%q, %q, %q) = %q, %v, not %q", s, v, u, got, ok, want)
	}
}

// expectReplacedPicture checks ReplaceVar for one of two terms in the other one.
func expectReplacedPicture(t *testing.T, p picture, v string, u picture) {
	t.Helper()
	want, ok := p.replaced(v, u, "")
	if !ok || len(want) > 80 || len(p.text()) > 80 || len(u.text()) > 80 {
		want = ""
	}
	expectReplaced(t, p.text(), v, u.text(), want)
}

func TestLimitOfTerms(t *testing.T) {
	if impl.MaxTerm != 80 {
		t.Errorf("MaxTerm is %d", impl.MaxTerm)
	}
}

func TestTermsOfOneByte(t *testing.T) {
	for c := range 256 {
		s := string([]byte{byte(c)})
		if strings.Contains("0123456789"+anyVariable, s) {
			expectTerm(t, leaf(s))
		} else {
			expectNoTerm(t, s)
		}
		for _, as := range []struct{ begin, end, right string }{
			{"", "a", signsBefore}, {"(a", "b)", signsBetween}, {"[", ":a>1]", loopVariable}, {"{", ":a>1}", loopVariable},
			{"[x", "a>1]", ":"}, {"{x", "a>1}", ":"}, {"[x:a", "1]", ">"}, {"{x:a", "1}", ">"}, {"[x:a>1", "", "]"}, {"{x:a>1", "", "}"},
			{"(a+b", "", ")"}, {"", "a+b)", "("}, {"", "x:a>1]", "["}, {"", "x:a>1}", "{"},
		} {
			text := as.begin + s + as.end
			if !strings.Contains(as.right, s) {
				expectNoTerm(t, text)
			} else if !impl.TermValid(text) {
				t.Errorf("%q is not taken as a term", text)
			}
		}
	}
}

func TestTextsThatAreNoTerms(t *testing.T) {
	for _, s := range []string{
		"", " ", "q", "c", "u", "A", "ab", "12", "1a", "a1", "aa", "xx", "-1", "1-", "\x00", "\xff", "é", "a\x00", "\x00a", "ａ", "１",
		"S", "SS", "SSSS", "SMINRCP", "aS", "Sab", "S12", "S(a)", "S a", " Sa", "Sa ", "Sa\n", "\na", "sa", "na", "Ta", "Xa", "@a",
		"()", "(a)", "(a+)", "(+a)", "(+)", "(a+b", "a+b)", "a+b", "(a+b))", "((a+b)", "(a b)", "(ab)", "(a++b)", "(a+b+1)", "(a%b)", "(a/b)", "(a>b)", "(a:b)", "(aSb)", "(a,b)",
		"(a+b)1", "(a+b)a", "1(a+b)", "(a+b)(a+b)", "(a+b]", "[a+b]", "{a+b}", "(a +b)", "( a+b)", "(a+b )", "(a+b) ", "(a<=b)", "(a==b)",
		"[]", "{}", "[x]", "[x:]", "[x:b]", "[x:b>]", "[x:>1]", "[:b>1]", "[x>1]", "[b>1]", "[xb>1]", "[x:b1]", "[x:b>1", "x:b>1]", "[x:b>1}", "{x:b>1]", "[x:b>1)", "(x:b>1)", "[x:b>1]]", "[[x:b>1]",
		"[x:b>1]1", "1[x:b>1]", "[x:b>1][x:b>1]", "{x:b>1}a", "[x:b>1>1]", "[x::b>1]", "[x:b>>1]", "[xy:b>1]", "[x:b,1]", "[x;b>1]", "[x=b>1]", "[x:b<1]", "[x :b>1]", "[x: b>1]", "[x:b> 1]", "[x:b>1 ]", " [x:b>1]",
		"[a:b>1]", "[b:b>1]", "{a:b>1}", "{b:b>1}", "[u:b>1]", "[c:b>1]", "[1:b>1]", "[S:b>1]", "[X:b>1]", "[(x):b>1]", "[Sx:b>1]", "[{:b>1]", "[{x:b>1}:b>1]", "[\x00:b>1]",
		"[x:[a:b>1]>1]", "[x:b>[a:b>1]]", "S[a:b>1]", "(1+{b:a>1})", "[x:b>(a+)]", "[x:(a+>1]", "[x:b>S]", "[x:S>1]", "(S+1)", "(1+S)", "[x:b>q]", "[x:q>1]", "(q+1)", "(1+q)", "Sq",
		"([x:b>1)+1]", "[x:(b>1)]", "{x:{y:b>1>1}}", "[x:b>(1+1])",
	} {
		expectNoTerm(t, s)
	}
}

func TestEachSign(t *testing.T) {
	for _, c := range []struct {
		s, sign string
		parts   []string
		free    string
		size    int
		levels  int
		depth   int
	}{
		{"0", "0", nil, "", 1, 0, 0},
		{"9", "9", nil, "", 1, 0, 0},
		{"a", "a", nil, "a", 1, 0, 1},
		{"b", "b", nil, "b", 1, 0, 2},
		{"v", "v", nil, "v", 1, 0, -1},
		{"w", "w", nil, "w", 1, 0, -1},
		{"z", "z", nil, "z", 1, 0, -1},
		{"Sa", "S", []string{"a"}, "a", 2, 0, 0},
		{"Ma", "M", []string{"a"}, "a", 2, 0, 0},
		{"I7", "I", []string{"7"}, "", 2, 0, 1},
		{"Nb", "N", []string{"b"}, "b", 2, 0, 0},
		{"Rb", "R", []string{"b"}, "b", 2, 0, 2},
		{"Cb", "C", []string{"b"}, "b", 2, 0, 1},
		{"Pa", "P", []string{"a"}, "a", 2, 0, 1},
		{"SCRb", "S", []string{"CRb"}, "b", 4, 0, 0},
		{"(1+2)", "+", []string{"1", "2"}, "", 3, 0, 0},
		{"(Sa*2)", "*", []string{"Sa", "2"}, "a", 4, 0, 0},
		{"(1^Nb)", "^", []string{"1", "Nb"}, "b", 4, 0, 0},
		{"(1-2)", "-", []string{"1", "2"}, "", 3, 0, 0},
		{"(1=2)", "=", []string{"1", "2"}, "", 3, 0, 0},
		{"(1<2)", "<", []string{"1", "2"}, "", 3, 0, 0},
		{"(a@2)", "@", []string{"a", "2"}, "a", 3, 0, 0},
		{"((a@1)+Na)", "+", []string{"(a@1)", "Na"}, "a", 6, 0, 0},
		{"(b=a)", "=", []string{"b", "a"}, "ab", 3, 0, -1},
		{"[x:b>Sx]", "[", []string{"b", "Sx"}, "b", 4, 1, 1},
		{"{x:a>(x<3)}", "{", []string{"a", "(x<3)"}, "a", 5, 1, 1},
		{"[v:b>v]", "[", []string{"b", "v"}, "b", 3, 1, 2},
		{"{w:b>Nw}", "{", []string{"b", "Nw"}, "b", 4, 1, 2},
		{"[x:b>{y:x>(y<Sx)}]", "[", []string{"b", "{y:x>(y<Sx)}"}, "b", 8, 2, 2},
		{"[x:[y:b>Sy]>(x+z)]", "[", []string{"[y:b>Sy]", "(x+z)"}, "bz", 8, 1, -1},
	} {
		if got := impl.PartsOfTerm(c.s); !slices.Equal(got, c.parts) {
			t.Errorf("PartsOfTerm(%q) = %q", c.s, got)
		}
		if impl.SignOf(c.s) != c.sign || impl.FreeVars(c.s) != c.free {
			t.Errorf("%q has the sign %q and the variables %q", c.s, impl.SignOf(c.s), impl.FreeVars(c.s))
		}
		if impl.SizeOfTerm(c.s) != c.size || impl.LevelsOf(c.s) != c.levels {
			t.Errorf("%q has the size %d and %d levels", c.s, impl.SizeOfTerm(c.s), impl.LevelsOf(c.s))
		}
		expectDepth(t, c.s, c.depth)
	}
}

// termsOfDepths has some terms of each depth from -1 on.
func termsOfDepths() [][]picture {
	a, b, one := leaf("a"), leaf("b"), leaf("1")
	return [][]picture{
		{leaf("x"), before("S", b), before("I", a), between("+", a, one), looped("[", "x", one, one)},
		{one, leaf("0"), before("S", a), between("@", a, one)},
		{a, before("I", one), before("C", b), looped("[", "x", b, one)},
		{b, before("R", b), looped("[", "y", b, leaf("y")), looped("{", "y", b, one)},
		{looped("[", "x", a, b), before("R", looped("[", "x", b, b))},
	}
}

func TestSignsOfEachDepth(t *testing.T) {
	terms := termsOfDepths()
	for i, list := range terms {
		for _, p := range list {
			expectDepth(t, p.text(), i-1)
			for sign, depths := range depthsOfSigns {
				q := before(sign, p)
				expectDepth(t, q.text(), append([]int{-1}, depths...)[i])
				expectTerm(t, q)
			}
		}
	}
	for i, list := range terms {
		for j, others := range terms {
			for _, p := range list {
				for _, q := range others {
					for _, sign := range strings.Split(signsBetween, "") {
						want := -1
						if sign != "@" && i == 1 && j == 1 || sign == "@" && i == 2 && j == 1 {
							want = 0
						}
						expectDepth(t, between(sign, p, q).text(), want)
						expectTerm(t, between(sign, p, q))
					}
				}
			}
		}
	}
}

func TestLoopsOfEachDepth(t *testing.T) {
	terms := termsOfDepths()
	for over, list := range terms {
		for each, others := range terms {
			for _, p := range list {
				for _, q := range others {
					forEach, those := looped("[", "w", p, q), looped("{", "w", p, q)
					wantEach, wantThose := -1, -1
					if over >= 2 && each >= 1 && each <= 3 {
						wantEach = each
					}
					if over >= 2 && each == 1 {
						wantThose = over - 1
					}
					expectDepth(t, forEach.text(), wantEach)
					expectDepth(t, those.text(), wantThose)
					expectTerm(t, forEach)
					expectTerm(t, those)
				}
			}
		}
		for _, p := range list {
			// The variable has a depth less than what the loop goes over.
			own, want := looped("[", "w", p, leaf("w")), -1
			if over >= 2 {
				want = over - 1
			}
			expectDepth(t, own.text(), want)
			expectTerm(t, own)
		}
	}
}

// expectDepths checks the depths of terms.
func expectDepths(t *testing.T, depths map[string]int) {
	t.Helper()
	for s, want := range depths {
		if !impl.TermValid(s) {
			t.Errorf("%q is not taken as a term", s)
		}
		expectDepth(t, s, want)
	}
}

func TestDepthsThatWouldBeTooGreat(t *testing.T) {
	expectDepths(t, map[string]int{
		"[x:a>b]":                    3,
		"[x:b>b]":                    3,
		"[y:[x:a>b]>y]":              3,
		"[y:[x:a>b]>b]":              3,
		"R[x:a>b]":                   3,
		"[y:a>[x:a>b]]":              -1,
		"[x:a>[y:a>b]]":              -1,
		"[x:b>[y:b>b]]":              -1,
		"N[x:a>[y:a>b]]":             -1,
		"C[x:a>[y:a>b]]":             -1,
		"C[x:a>b]":                   2,
		"CC[x:a>b]":                  1,
		"SCC[x:a>b]":                 0,
		"CCC[x:a>b]":                 -1,
		"[y:a>C[x:a>b]]":             3,
		"[x:a>[y:a>a]]":              3,
		"[x:a>[y:a>[z:a>1]]]":        3,
		"[x:a>[y:a>[z:a>a]]]":        -1,
		"[w:a>[x:a>[y:a>[z:a>1]]]]":  -1,
		"[w:a>N[x:a>[y:a>[z:a>1]]]]": 1,
		"{y:[x:a>b]>1}":              3,
		"{y:[x:a>b]>Ny}":             3,
		"{y:[x:a>b]>y}":              -1,
		"{y:[x:a>b]>SCy}":            3,
		"[y:a>{x:b>1}]":              3,
		"[y:a>[z:a>{x:b>1}]]":        -1,
	})
}

func TestLoopsOverWhatHasNoParts(t *testing.T) {
	expectDepths(t, map[string]int{
		"[x:1>1]":             -1,
		"{x:1>1}":             -1,
		"[x:Sa>1]":            -1,
		"[x:a>[y:x>1]]":       -1,
		"[x:b>[y:x>1]]":       2,
		"[x:b>[y:x>y]]":       2,
		"[x:b>[y:x>[z:y>1]]]": -1,
	})
}

func TestVariablesThatAreBoundTwice(t *testing.T) {
	expectDepths(t, map[string]int{
		"[x:b>[x:x>x]]":              2,
		"[x:b>[x:x>Sx]]":             -1,
		"[x:b>[x:x>(x+1)]]":          2,
		"[x:b>(N[x:x>x]+Nx)]":        1,
		"[x:b>(N[x:x>1]+x)]":         -1,
		"[x:b>(Nx+N[x:x>x])]":        1,
		"[x:b>([x:x>x]@Sx)]":         1,
		"[x:b>(Sx+S{x:x>x})]":        1,
		"[x:b>[x:a>x]]":              2,
		"[x:b>[x:Cb>Sx]]":            -1,
		"[x:[x:b>Sx]>(x+1)]":         1,
		"[x:[x:b>Sx]>Sx]":            -1,
		"[x:[x:a>b]>[x:x>[x:x>1]]]":  3,
		"[x:[x:a>b]>[x:x>[x:x>x]]]":  3,
		"[x:[x:a>b]>[x:x>[x:x>Sx]]]": -1,
		"{x:b>S{x:x>x}}":             2,
		"{x:b>{x:x>x}}":              -1,
		"([x:b>Sx]@x)":               -1,
		"(S[x:b>Sx]+S[x:a>x])":       0,
		"(S[x:b>Sx]+S[x:a>Sx])":      -1,
		"(S[x:a>x]+x)":               -1,
	})
}

func TestVariablesAreBoundInTheSecondPartAlone(t *testing.T) {
	expectDepths(t, map[string]int{
		"[x:x>1]":             -1,
		"{x:x>1}":             -1,
		"[x:b>[y:y>1]]":       -1,
		"[x:b>([y:x>y]@1)]":   1,
		"[x:b>(x@[y:x>y])]":   -1,
		"[x:b>[y:a>(y+Sx)]]":  2,
		"[x:b>[y:a>(x+y)]]":   -1,
		"[x:b>[y:Rx>(y+Sx)]]": 2,
	})
}

func TestFreeVariablesHaveNoDepth(t *testing.T) {
	expectDepths(t, map[string]int{
		"x":             -1,
		"Nx":            -1,
		"[x:a>y]":       -1,
		"N[x:a>y]":      -1,
		"[x:y>1]":       -1,
		"(1+z)":         -1,
		"(z+1)":         -1,
		"[x:b>[y:a>z]]": -1,
		"v":             -1,
	})
}

func TestFreeVars(t *testing.T) {
	for s, want := range map[string]string{
		"(z+(y+(x+(w+(v+(b+a))))))": "abvwxyz",
		"(a+(a+(x+x)))":             "ax",
		"[x:x>1]":                   "x",
		"[x:1>x]":                   "",
		"[x:x>x]":                   "x",
		"[x:x>(x+y)]":               "xy",
		"[x:b>(a@x)]":               "ab",
		"{x:x>x}":                   "x",
		"{x:y>x}":                   "y",
		"{x:1>y}":                   "y",
		"[x:1>[y:1>x]]":             "",
		"[x:1>[y:y>x]]":             "y",
		"[x:1>[y:x>y]]":             "",
		"[x:[y:1>x]>y]":             "xy",
		"[x:[x:1>x]>x]":             "",
		"[x:1>[x:x>x]]":             "",
		"[x:[x:x>x]>x]":             "x",
		"[x:1>([x:1>x]+x)]":         "",
		"([x:1>x]+x)":               "x",
		"(x+[x:1>x])":               "x",
		"([x:1>y]+[y:1>x])":         "xy",
		"([x:1>x]+[y:1>y])":         "",
		"[x:(v+w)>(x+[w:z>(w+y)])]": "vwyz",
		"SRx":                       "x",
		"3":                         "",
	} {
		if got := impl.FreeVars(s); got != want {
			t.Errorf("FreeVars(%q) = %q, not %q", s, got, want)
		}
	}
}

// A replacing is a call of ReplaceVar and what it returns.
type replacing struct{ s, v, u, want string }

func expectReplacings(t *testing.T, list []replacing) {
	t.Helper()
	for _, c := range list {
		expectReplaced(t, c.s, c.v, c.u, c.want)
	}
}

func TestReplaceVar(t *testing.T) {
	expectReplacings(t, []replacing{
		{"a", "a", "b", "b"},
		{"a", "a", "Rb", "Rb"},
		{"a", "a", "a", "a"},
		{"a", "b", "1", "a"},
		{"3", "a", "b", "3"},
		{"SRa", "a", "Ra", "SRRa"},
		{"(a+(a@(b+a)))", "a", "(a+b)", "((a+b)+((a+b)@(b+(a+b))))"},
		{"(x+y)", "x", "(y*x)", "((y*x)+y)"},
		{"[x:a>(x+y)]", "a", "I3", "[x:I3>(x+y)]"},
		{"[x:a>(x+y)]", "y", "3", "[x:a>(x+3)]"},
		{"{x:a>(x+y)}", "y", "Sz", "{x:a>(x+Sz)}"},
	})
}

func TestReplaceVarThatIsBoundInTheSecondPart(t *testing.T) {
	expectReplacings(t, []replacing{
		{"[x:x>(x+y)]", "x", "a", "[x:a>(x+y)]"},
		{"[x:x>x]", "x", "y", "[x:y>x]"},
		{"[x:x>x]", "x", "x", "[x:x>x]"},
		{"[x:x>x]", "x", "Rx", "[x:Rx>x]"},
		{"{x:x>x}", "x", "Ix", "{x:Ix>x}"},
		{"[x:a>x]", "x", "b", "[x:a>x]"},
		{"[x:a>[y:x>(x+y)]]", "x", "b", "[x:a>[y:x>(x+y)]]"},
		{"(x+[x:x>x])", "x", "1", "(1+[x:1>x])"},
		{"([x:x>x]+x)", "x", "1", "([x:1>x]+1)"},
		{"[x:x>[x:x>x]]", "x", "1", "[x:1>[x:x>x]]"},
		{"[x:[x:x>x]>x]", "x", "1", "[x:[x:1>x]>x]"},
		{"[y:x>[x:x>y]]", "x", "1", "[y:1>[x:1>y]]"},
	})
}

func TestReplaceVarByWhatWouldBeBound(t *testing.T) {
	expectReplacings(t, []replacing{
		{"[x:a>(x+y)]", "y", "x", ""},
		{"[x:a>y]", "y", "Nx", ""},
		{"{x:a>y}", "y", "x", ""},
		{"[x:a>[z:a>y]]", "y", "x", ""},
		{"[x:a>[z:a>y]]", "y", "z", ""},
		{"[x:a>[z:y>1]]", "y", "x", ""},
		{"[x:a>[z:y>1]]", "y", "z", "[x:a>[z:z>1]]"},
		{"(y+[x:a>y])", "y", "x", ""},
		{"([x:a>y]+y)", "y", "x", ""},
		{"[z:[x:a>y]>1]", "y", "x", ""},
		{"[x:y>y]", "y", "x", ""},
		{"[x:a>a]", "a", "x", ""},
		{"[x:a>a]", "a", "(b+[y:a>x])", ""},
		{"S[x:a>(1+Ry)]", "y", "[y:x>1]", ""},
		{"[x:a>{x:a>y}]", "y", "x", ""},
		{"[y:a>[x:y>x]]", "y", "x", "[y:a>[x:y>x]]"},
		{"[x:x>[y:a>x]]", "x", "y", "[x:y>[y:a>x]]"},
		{"[y:x>[x:a>x]]", "x", "y", "[y:y>[x:a>x]]"},
		{"[y:a>([x:a>x]+x)]", "x", "y", ""},
	})
}

func TestReplaceVarByWhatIsBoundElsewhere(t *testing.T) {
	expectReplacings(t, []replacing{
		{"[x:a>x]", "y", "x", "[x:a>x]"},
		{"[x:y>x]", "y", "x", "[x:x>x]"},
		{"([x:a>x]+y)", "y", "x", "([x:a>x]+x)"},
		{"(y+[x:a>x])", "y", "x", "(x+[x:a>x])"},
		{"[x:a>(x+y)]", "y", "S[x:a>x]", "[x:a>(x+S[x:a>x])]"},
		{"[x:a>(x+y)]", "y", "S[x:x>x]", ""},
		{"[x:a>(x+y)]", "z", "x", "[x:a>(x+y)]"},
		{"[x:a>[y:x>y]]", "y", "x", "[x:a>[y:x>y]]"},
		{"[x:a>[y:x>(y+w)]]", "w", "z", "[x:a>[y:x>(y+z)]]"},
		{"[x:a>y]", "y", "y", "[x:a>y]"},
		{"[y:a>y]", "y", "y", "[y:a>y]"},
	})
}

func TestReplaceNoTermOrNoVariable(t *testing.T) {
	expectReplacings(t, []replacing{
		{"q", "a", "a", ""}, {"a", "a", "q", ""}, {"", "a", "a", ""}, {"a", "a", "", ""}, {"ab", "a", "1", ""}, {"1", "a", "ab", ""}, {"[a:b>1]", "b", "a", ""}, {"b", "b", "[a:b>1]", ""},
		{"Sa", "3", "a", ""}, {"3", "3", "4", ""}, {"Sa", "S", "a", ""}, {"(a+b)", "+", "a", ""}, {"Sa", "", "a", ""}, {"Sa", "aa", "a", ""}, {"Sa", "ab", "a", ""}, {"Sa", "a ", "a", ""}, {"Sa", " a", "a", ""},
		{"Sa", "Sa", "a", ""}, {"Sa", "c", "a", ""}, {"Sa", "u", "a", ""}, {"Sa", "A", "a", ""}, {"Sa", "`", "a", ""}, {"Sa", "{", "a", ""}, {"[x:a>x]", "[", "a", ""}, {"Sa", "\x00", "a", ""}, {"Sa", "a\x00", "a", ""}, {"Sa", "abvwxyz", "a", ""}, {"Sa", "xy", "a", ""},
	})
}

func TestVariablesThatMayBeReplaced(t *testing.T) {
	for c := range 256 {
		v := string([]byte{byte(c)})
		want := ""
		if strings.Contains(anyVariable, v) {
			want = "1"
		}
		for _, name := range strings.Split(anyVariable, "") {
			if v == name {
				expectReplaced(t, name, v, "1", "1")
			} else if want != "" {
				expectReplaced(t, name, v, "1", name)
			} else {
				expectReplaced(t, name, v, "1", "")
			}
			expectReplaced(t, name, v+v, "1", "")
			expectReplaced(t, name, v+name, "1", "")
			expectReplaced(t, name, name+v, "1", "")
		}
		if want == "" {
			expectReplaced(t, "1", v, "1", "")
		}
	}
}

// longTerms returns terms of some kinds whose texts have so many bytes.
func longTerms(size int) []picture {
	list := []picture{leaf("a"), leaf("1"), leaf("a"), leaf("b"), leaf("1")}
	for i := range list {
		p := list[i]
		for {
			q := []picture{
				before("R", p), between("+", leaf("1"), p), between("<", p, leaf("x")),
				looped("[", "x", leaf("a"), p), looped("{", "y", p, leaf("1")),
			}[i]
			if len(q.text()) > size {
				break
			}
			p = q
		}
		for len(p.text()) < size {
			p = before("N", p)
		}
		list[i] = p
	}
	return list
}

func TestLongTerms(t *testing.T) {
	for _, size := range []int{10, 78, 79, 80} {
		for _, p := range longTerms(size) {
			if len(p.text()) != size || !impl.TermValid(p.text()) {
				t.Errorf("%q of %d bytes is not taken as a term", p.text(), len(p.text()))
			}
			expectTerm(t, p)
			expectReplaced(t, p.text(), "z", "a", p.text())
			expectReplaced(t, "z", "z", p.text(), p.text())
			expectReplaced(t, p.text(), "z", p.text(), p.text())
		}
	}
	for _, size := range []int{81, 82, 83, 100, 400, 2000} {
		for _, p := range longTerms(size) {
			expectNoTerm(t, p.text())
			expectReplaced(t, p.text(), "z", "a", "")
			expectReplaced(t, "1", "z", p.text(), "")
		}
	}
	for _, c := range []string{"S", "(", "[x:", "{x:a>", "[x:a>", "a", "1", "(a+", ")", "]", ">", "\x00"} {
		expectNoTerm(t, strings.Repeat(c, 80/len(c)))
		expectNoTerm(t, strings.Repeat(c, 100000))
	}
	expectNoTerm(t, strings.Repeat("S", 100000)+"a")
	expectNoTerm(t, strings.Repeat("(1+", 20000)+"1"+strings.Repeat(")", 20000))
	expectNoTerm(t, "a"+strings.Repeat(" ", 79))
}

func TestReplacingToTheLimit(t *testing.T) {
	source := rand.New(rand.NewSource(11))
	atLimit, pastLimit := 0, 0
	for range 8000 {
		p, u := randomPicture(source, 1+source.Intn(12)), randomPicture(source, 1+source.Intn(12))
		v := anyVariable[source.Intn(len(anyVariable))]
		text, ok := p.replaced(string(v), u, "")
		if !ok || len(p.text()) > 80 || len(u.text()) > 80 {
			continue
		}
		// Lengthen the term until what it becomes is just long enough, and too long.
		for len(text) < 79 {
			p, text = before("R", p), "R"+text
		}
		for len(text) <= 82 {
			if len(text) == 80 && len(p.text()) < 80 {
				atLimit++
			}
			if len(text) == 81 && len(p.text()) < 80 {
				pastLimit++
			}
			expectReplacedPicture(t, p, string(v), u)
			p, text = before("R", p), "R"+text
		}
	}
	if atLimit < 500 || pastLimit < 500 {
		t.Errorf("only %d terms become just long enough, and %d too long", atLimit, pastLimit)
	}
	pairs := strings.Repeat("(x+", 12)
	ends := strings.Repeat(")", 12)
	expectReplacings(t, []replacing{
		{pairs + "1" + ends, "x", "a", strings.Repeat("(a+", 12) + "1" + ends},
		{pairs + "1" + ends, "x", "Ra", strings.Repeat("(Ra+", 12) + "1" + ends},
		{pairs + "1" + ends, "x", "(a+b)", ""},
		{strings.Repeat("N", 78) + "Na", "a", "b", strings.Repeat("N", 79) + "b"},
		{strings.Repeat("N", 78) + "Na", "a", "Nb", ""},
		{strings.Repeat("N", 77) + "Na", "a", "Nb", strings.Repeat("N", 79) + "b"},
		{strings.Repeat("N", 40) + "a", "a", strings.Repeat("N", 39) + "b", strings.Repeat("N", 79) + "b"},
		{strings.Repeat("N", 40) + "a", "a", strings.Repeat("N", 40) + "b", ""},
		{"N" + "a", "a", strings.Repeat("N", 79) + "b", ""},
		{"(a+a)", "a", strings.Repeat("N", 37) + "b", "(" + strings.Repeat("N", 37) + "b+" + strings.Repeat("N", 37) + "b)"},
		{"N(a+a)", "a", strings.Repeat("N", 37) + "b", "N(" + strings.Repeat("N", 37) + "b+" + strings.Repeat("N", 37) + "b)"},
		{"NNN(a+a)", "a", strings.Repeat("N", 37) + "b", ""},
		{"NN(a+a)", "a", strings.Repeat("N", 37) + "b", ""},
	})
}

// termPattern is a regular expression for the terms in which brackets lie in at most so many others, but for the limit.
func termPattern(brackets int) string {
	pattern := `[0-9abv-z]`
	for range brackets {
		pattern = `[SMINRCP]*(?:[0-9abv-z]|\(` + pattern + `[-+*^=<@]` + pattern + `\)|\[[v-z]:` + pattern + `>` + pattern + `\]|\{[v-z]:` + pattern + `>` + pattern + `\})`
	}
	return `\A` + pattern + `\z`
}

func TestAllShortTextsAsTerms(t *testing.T) {
	pattern := regexp.MustCompile(termPattern(2))
	texts := []string{""}
	for at := 0; at < len(texts); at++ {
		s := texts[at]
		if want := pattern.MatchString(s); impl.TermValid(s) != want {
			t.Errorf("TermValid(%q) is not %v", s, want)
		} else if len(s) < 4 && !want {
			expectNoTerm(t, s)
		}
		if len(s) < 5 {
			for _, c := range "ax1S(+)[:>]}" {
				texts = append(texts, s+string(c))
			}
		}
	}
}

// picturesUpTo returns all terms of some signs by how many bytes they have, up to some.
func picturesUpTo(size int) [][]picture {
	bySize := [][]picture{nil, {leaf("a"), leaf("x"), leaf("1")}}
	for n := 2; n <= size; n++ {
		var list []picture
		for _, p := range bySize[n-1] {
			list = append(list, before("S", p))
		}
		for i := 1; i < n; i++ {
			for _, p := range bySize[i] {
				for j := 1; i+j+3 <= n; j++ {
					for _, q := range bySize[j] {
						switch i + j {
						case n - 3:
							list = append(list, between("@", p, q))
						case n - 5:
							list = append(list, looped("[", "x", p, q), looped("{", "y", p, q))
						}
					}
				}
			}
		}
		bySize = append(bySize, list)
	}
	return bySize
}

func TestAllSmallTerms(t *testing.T) {
	pattern := regexp.MustCompile(termPattern(3))
	for size, list := range picturesUpTo(11) {
		for _, p := range list {
			expectTerm(t, p)
			s := p.text()
			if size > 8 {
				continue
			}
			for i := range s {
				texts := []string{s[:i], s[i+1:], s[:i] + s[i+1:]}
				for _, c := range "ax1S(+)[:>]{}u" {
					texts = append(texts, s[:i]+string(c)+s[i:], s[:i]+string(c)+s[i+1:], s+string(c))
				}
				for _, text := range texts {
					if want := pattern.MatchString(text); impl.TermValid(text) != want {
						t.Errorf("TermValid(%q) is not %v", text, want)
					}
				}
			}
		}
	}
}

func TestAllSmallReplacements(t *testing.T) {
	terms := slices.Concat(picturesUpTo(10)...)
	others := []picture{
		leaf("1"), leaf("a"), leaf("x"), leaf("y"), between("+", leaf("y"), leaf("x")),
		looped("[", "x", leaf("y"), leaf("x")), looped("[", "x", leaf("x"), leaf("x")), looped("[", "y", leaf("x"), leaf("y")), looped("{", "y", leaf("y"), leaf("x")), looped("[", "x", leaf("1"), leaf("x")),
	}
	for _, p := range terms {
		for _, u := range others {
			for _, v := range []string{"a", "x", "y"} {
				expectReplacedPicture(t, p, v, u)
			}
		}
	}
}

// randomPicture returns a term with about so many terms in it, which need not have a depth.
func randomPicture(source *rand.Rand, size int) picture {
	pick := func(set string) string { return string(set[source.Intn(len(set))]) }
	switch kind := source.Intn(5); {
	case size <= 1:
		return leaf(pick(anyVariable + loopVariable + "059"))
	case size == 2 || kind == 0:
		return before(pick(signsBefore), randomPicture(source, size-1))
	default:
		first := 1 + source.Intn(size-2)
		p, q := randomPicture(source, first), randomPicture(source, size-1-first)
		if kind == 1 {
			return between(pick(signsBetween), p, q)
		}
		return looped(pick("[{"), pick(loopVariable), p, q)
	}
}

func TestRandomTerms(t *testing.T) {
	source := rand.New(rand.NewSource(12))
	for range 20000 {
		p, u := randomPicture(source, 1+source.Intn(25)), randomPicture(source, 1+source.Intn(6))
		expectTerm(t, p)
		for _, v := range strings.Split(anyVariable, "") {
			expectReplacedPicture(t, p, v, u)
		}
	}
}

// A scope has the variables that stand for something, and of which depth.
type scope map[string]int

func (s scope) with(v string, depth int) scope {
	inner := scope{v: depth}
	for name, d := range s {
		if name != v {
			inner[name] = d
		}
	}
	return inner
}

// randomOfDepth returns a term that gives a depth, built from what gives it.
func randomOfDepth(source *rand.Rand, s scope, depth int, size int) picture {
	of := func(depth int) picture { return randomOfDepth(source, s, depth, size/2) }
	bound := string(loopVariable[source.Intn(len(loopVariable))])
	if size <= 1 {
		return simplestOfDepth(source, s, depth)
	}
	choices := []func() picture{func() picture { return simplestOfDepth(source, s, depth) }}
	add := func(choice func() picture) { choices = append(choices, choice) }
	over := 1 + source.Intn(3)
	switch depth {
	case 0:
		add(func() picture { return before("S", of(1)) })
		add(func() picture { return before("M", of(1)) })
		add(func() picture { return before("N", of(over)) })
		add(func() picture { return between("@", of(1), of(0)) })
		add(func() picture { return between(string("+*^-=<"[source.Intn(6)]), of(0), of(0)) })
	case 1:
		add(func() picture { return before("I", of(0)) })
		add(func() picture { return before("P", of(1)) })
	}
	if depth >= 1 {
		add(func() picture { return before("R", of(depth)) })
		add(func() picture {
			return looped("[", bound, of(over), randomOfDepth(source, s.with(bound, over-1), depth-1, size/2))
		})
		add(func() picture {
			return looped("{", bound, of(depth), randomOfDepth(source, s.with(bound, depth-1), 0, size/2))
		})
	}
	if depth == 1 || depth == 2 {
		add(func() picture { return before("C", of(depth+1)) })
	}
	return choices[source.Intn(len(choices))]()
}

// simplestOfDepth returns a digit or variable of a depth, or else one of the shortest terms.
func simplestOfDepth(source *rand.Rand, s scope, depth int) picture {
	signs := ""
	if depth == 0 {
		signs = "059"
	}
	// In a fixed order, since that of the map would make other terms in each run.
	for _, name := range strings.Split(anyVariable, "") {
		if d, ok := s[name]; ok && d == depth {
			signs += name
		}
	}
	if signs == "" {
		return looped("[", "z", leaf("a"), leaf("b"))
	}
	return leaf(string(signs[source.Intn(len(signs))]))
}

func TestTermsMadeToHaveADepth(t *testing.T) {
	source := rand.New(rand.NewSource(13))
	for round := range 20000 {
		depth := round % 4
		p := randomOfDepth(source, scope{"a": 1, "b": 2}, depth, 1+source.Intn(40))
		expectTerm(t, p)
		if len(p.text()) > 80 {
			continue
		}
		expectDepth(t, p.text(), depth)
		if got := impl.FreeVars(p.text()); strings.Trim(got, "ab") != "" {
			t.Errorf("FreeVars(%q) = %q, and yet it has a depth", p.text(), got)
		}
		expectSameDepthReplaced(t, source, p, depth)
	}
}

// expectSameDepthReplaced checks that a term keeps its depth if what comes in has that of what it comes in for.
func expectSameDepthReplaced(t *testing.T, source *rand.Rand, p picture, depth int) {
	t.Helper()
	for i, v := range []string{"a", "b"} {
		u := randomOfDepth(source, scope{"a": 1, "b": 2}, i+1, 1+source.Intn(6))
		expectReplacedPicture(t, p, v, u)
		if text, ok := impl.ReplaceVar(p.text(), v, u.text()); ok {
			expectDepth(t, text, depth)
		}
	}
}

func TestVariablesAreReplacedBack(t *testing.T) {
	source := rand.New(rand.NewSource(14))
	for range 20000 {
		p := randomPicture(source, 1+source.Intn(15))
		s := p.text()
		if len(s) > 80 || strings.Contains(s, "z") {
			continue
		}
		for _, v := range strings.Split("abvwxy", "") {
			there, ok := impl.ReplaceVar(s, v, "z")
			if !ok || strings.Contains(impl.FreeVars(there), v) {
				t.Errorf("ReplaceVar(%q, %q, \"z\") = %q, %v", s, v, there, ok)
				continue
			}
			expectReplaced(t, there, "z", v, s)
		}
	}
}

func TestRandomTextsAsTerms(t *testing.T) {
	source := rand.New(rand.NewSource(15))
	for range 20000 {
		s := []byte(randomPicture(source, 1+source.Intn(20)).text())
		for range 1 + source.Intn(3) {
			s[source.Intn(len(s))] = byte(source.Intn(256))
		}
		text := string(s)
		valid := impl.TermValid(text)
		if !valid {
			expectNoTerm(t, text)
			continue
		}
		// What is taken as a term is made of its sign and parts again.
		parts := impl.PartsOfTerm(text)
		p := leaf(impl.SignOf(text))
		for _, part := range parts {
			p.parts = append(p.parts, leaf(part))
		}
		if p.sign == "[" || p.sign == "{" {
			p.bound = text[1:2]
		}
		if p.text() != text {
			t.Errorf("%q has the sign %q and the parts %q", text, p.sign, parts)
		}
	}
}

func TestPartsOfTermAreNewMemory(t *testing.T) {
	for _, s := range []string{"[x:b>Sx]", "(a+b)", "Sa"} {
		first, second := impl.PartsOfTerm(s), impl.PartsOfTerm(s)
		want := slices.Clone(first)
		for i := range first[:cap(first)] {
			first[:cap(first)][i] = "changed"
		}
		if !slices.Equal(second, want) || !slices.Equal(impl.PartsOfTerm(s), want) {
			t.Errorf("PartsOfTerm(%q) keeps memory: %q", s, second)
		}
	}
}
