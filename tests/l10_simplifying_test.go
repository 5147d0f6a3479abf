package tests

import (
	"fmt"
	"math"
	"math/rand"
	"slices"
	"strconv"
	"strings"
	"sync"
	"testing"

	"loop.example/flatarrays/impl"
)

// becomes returns the rule for a term, and what the term becomes by it. It looks at the text where that tells.
func (p picture) becomes() (int, picture) {
	s := p.text()
	switch {
	case p.isOfDigits() && p.sign != "@" && p.ofDigits() < 10:
		return impl.RuleFold, leaf(strconv.Itoa(p.ofDigits()))
	case startsWith(s, "(0+", "(0^", "(1*"):
		return impl.RuleNeutral, p.parts[1]
	case startsWith(s, "(") && endsWith(s, "+0)", "^0)", "*1)", "-0)"):
		return impl.RuleNeutral, p.parts[0]
	case startsWith(s, "RR"):
		return impl.RuleTurn, p.parts[0].parts[0]
	case startsWith(s, "SR", "MR", "NR"):
		return impl.RuleTurn, before(p.sign, p.parts[0].parts[0])
	case startsWith(s, "[") && endsWith(s, ">"+p.bound+"]"), startsWith(s, "{") && len(p.parts[1].text()) == 1 && strings.Contains("123456789", p.parts[1].text()):
		return impl.RuleLoop, p.parts[0]
	case startsWith(s, "N["):
		return impl.RuleLength, before("N", p.parts[0].parts[0])
	case startsWith(s, "["+p.bound+":["):
		return p.fused()
	}
	return impl.RuleNone, p
}

func startsWith(s string, starts ...string) bool {
	return slices.ContainsFunc(starts, func(start string) bool { return strings.HasPrefix(s, start) })
}

func endsWith(s string, ends ...string) bool {
	return slices.ContainsFunc(ends, func(end string) bool { return strings.HasSuffix(s, end) })
}

func (p picture) isOfDigits() bool {
	s := p.text()
	return len(s) == 5 && s[0] == '(' && strings.Contains("0123456789", s[1:2]) && strings.Contains("0123456789", s[3:4])
}

func (p picture) ofDigits() int {
	given, _ := p.given(new(counter), nil)
	return given.value
}

// fused returns what a loop over a loop becomes, with all conditions of the document.
func (p picture) fused() (int, picture) {
	inner, u := p.parts[0], p.parts[1]
	stands := 0
	for _, l := range u.places("") {
		if l.sign == p.bound && l.isFree() {
			stands += 1 + len(l.within)
		}
	}
	text, comesIn := u.replaced(p.bound, inner.parts[1], "")
	if stands > 1 || inner.bound != p.bound && strings.Contains(u.free(), inner.bound) || !comesIn {
		return impl.RuleNone, p
	}
	return impl.RuleFuse, looped("[", inner.bound, inner.parts[0], pictureOf(text))
}

// simplified returns what is left of a term, and counts the rules.
func (p picture) simplified(counts []int) picture {
	q := p
	q.parts = nil
	for _, part := range p.parts {
		q.parts = append(q.parts, part.simplified(counts))
	}
	rule, next := q.becomes()
	if rule == impl.RuleNone {
		return q
	}
	counts[rule]++
	return next.simplified(counts)
}

// expectRule checks the rule for a term, and what the term becomes by it.
func expectRule(t *testing.T, s string, rule int, want string) {
	t.Helper()
	if got := impl.RuleFor(s); got != rule {
		t.Errorf("RuleFor(%q) = %d, not %d", s, got, rule)
	}
	if got, ok := impl.SimplifyOnce(s); got != want || ok != (rule > 0) {
		t.Errorf("SimplifyOnce(%q) = %q, %v, not %q", s, got, ok, want)
	}
}

// expectLeft checks what is left of a term, and how often each rule is used.
func expectLeft(t *testing.T, s, want string, counts []int) {
	t.Helper()
	if got, ok := impl.SimplifyTerm(s); got != want || !ok {
		t.Errorf("SimplifyTerm(%q) = %q, %v, not %q", s, got, ok, want)
	}
	list, ok := impl.CountRules(s)
	expectList(t, "CountRules "+s, list, ok, counts)
	if got := impl.IsSimple(s); got != (s == want) || got != (sum(list) == 0) {
		t.Errorf("IsSimple(%q) = %v with %q left by %v", s, got, want, list)
	}
	if again, ok := impl.SimplifyTerm(want); again != want || !ok || !impl.IsSimple(want) {
		t.Errorf("%q, left of %q, is not simple: %q, %v", want, s, again, ok)
	}
}

// expectSimplified checks all functions of one term, and returns how often each rule is used.
func expectSimplified(t *testing.T, p picture) []int {
	t.Helper()
	s, counts := p.text(), make([]int, 7)
	rule, once := p.becomes()
	expectRule(t, s, rule, once.text())
	expectLeft(t, s, p.simplified(counts).text(), counts)
	return counts
}

// expectNoRule checks that no function takes a text as a term.
func expectNoRule(t *testing.T, s string) {
	t.Helper()
	expectRule(t, s, -1, "")
	if got, ok := impl.SimplifyTerm(s); got != "" || ok || impl.IsSimple(s) {
		t.Errorf("SimplifyTerm(%.99q) = %q, %v, IsSimple = %v", s, got, ok, impl.IsSimple(s))
	}
	list, ok := impl.CountRules(s)
	expectNoList(t, "CountRules", list, ok)
}

// expectNoMoreWork checks that a simpler term gives the same with no more work, if the term gives something without a reason.
func expectNoMoreWork(t *testing.T, s, simpler, a, b string) bool {
	t.Helper()
	if _, why := impl.RunTerm(s, a, b); why != "" {
		return false
	}
	if !impl.GivesSame(s, simpler, a, b) {
		t.Errorf("%q and %q give different arrays of %q and %q", s, simpler, a, b)
	}
	if work, less := impl.WorkOf(s, a, b), impl.WorkOf(simpler, a, b); less > work {
		t.Errorf("WorkOf(%q, %q, %q) = %d, but %d for %q", s, a, b, work, less, simpler)
	}
	return true
}

// expectSameSimplified checks this of a term simplified once and of what is left of it.
func expectSameSimplified(t *testing.T, s, a, b string) bool {
	t.Helper()
	once, _ := impl.SimplifyOnce(s)
	left, _ := impl.SimplifyTerm(s)
	return expectNoMoreWork(t, s, once, a, b) && expectNoMoreWork(t, s, left, a, b)
}

// A ruled is a term, its rule, and what it becomes by it.
type ruled struct {
	s    string
	rule int
	want string
}

func expectRules(t *testing.T, list []ruled) {
	t.Helper()
	for _, c := range list {
		expectRule(t, c.s, c.rule, c.want)
		expectSimplified(t, pictureOf(c.s))
		expectSameSimplified(t, c.s, "[3,0,10006]", "[[1,2],[],[3]]")
	}
}

// expectUnruled checks that no rule applies to terms.
func expectUnruled(t *testing.T, list ...string) {
	t.Helper()
	for _, s := range list {
		expectRules(t, []ruled{{s, impl.RuleNone, s}})
	}
}

func TestNumbersAndNamesOfRules(t *testing.T) {
	numbers := []int{impl.RuleNone, impl.RuleFold, impl.RuleNeutral, impl.RuleTurn, impl.RuleLoop, impl.RuleLength, impl.RuleFuse}
	names := []string{"none", "fold", "neutral", "turn", "loop", "length", "fuse"}
	for i, rule := range numbers {
		if rule != i || impl.NameOfRule(i) != names[i] {
			t.Errorf("the rule %d is %q, with the number %d", i, impl.NameOfRule(i), rule)
		}
	}
	for _, rule := range []int{-1, -2, -7, 7, 8, 256, 1 << 32, math.MinInt, math.MaxInt} {
		if name := impl.NameOfRule(rule); name != "" {
			t.Errorf("NameOfRule(%d) = %q", rule, name)
		}
	}
}

func TestFoldsTwoDigits(t *testing.T) {
	for m := range 10 {
		for n := range 10 {
			for sign, result := range map[string]int{
				"+": m + n, "*": m * n, "^": max(m, n), "-": max(m-n, 0), "=": oneFor(m == n), "<": oneFor(m < n),
			} {
				s := between(sign, leaf(strconv.Itoa(m)), leaf(strconv.Itoa(n))).text()
				if result < 10 {
					expectRules(t, []ruled{{s, impl.RuleFold, strconv.Itoa(result)}})
				} else {
					expectUnruled(t, s)
				}
			}
			expectUnruled(t, between("@", leaf(strconv.Itoa(m)), leaf(strconv.Itoa(n))).text())
		}
	}
}

func TestFoldsResultsBelowTenAlone(t *testing.T) {
	expectRules(t, []ruled{
		{"(2+3)", impl.RuleFold, "5"}, {"(4+5)", impl.RuleFold, "9"}, {"(0+0)", impl.RuleFold, "0"},
		{"(3*3)", impl.RuleFold, "9"}, {"(0*9)", impl.RuleFold, "0"}, {"(9*0)", impl.RuleFold, "0"},
		{"(9^9)", impl.RuleFold, "9"}, {"(2^7)", impl.RuleFold, "7"},
		{"(7-2)", impl.RuleFold, "5"}, {"(2-7)", impl.RuleFold, "0"}, {"(0-1)", impl.RuleFold, "0"},
		{"(3=3)", impl.RuleFold, "1"}, {"(3=4)", impl.RuleFold, "0"}, {"(3<4)", impl.RuleFold, "1"}, {"(4<4)", impl.RuleFold, "0"}, {"(5<4)", impl.RuleFold, "0"},
	})
	expectUnruled(t, "(5+5)", "(4+6)", "(9+9)", "(2*5)", "(9*9)", "(3*4)", "(1@0)", "(0@0)", "(5+a)", "(a=a)", "(x-x)", "(2+Sa)", "(Sa<3)", "((5+5)-2)", "(2<(5+5))")
}

func TestLeavesOutWhatIsNeutral(t *testing.T) {
	neutralAhead := map[string]bool{"0+": true, "0^": true, "1*": true}
	neutralBehind := map[string]bool{"+0": true, "^0": true, "*1": true, "-0": true}
	for _, other := range []string{"x", "a", "b", "Sa", "(x+y)", "(5+5)", "[x:a>y]", "{x:a>0}", "I0"} {
		for _, sign := range strings.Split(signsBetween, "") {
			for n := range 10 {
				digit := strconv.Itoa(n)
				ahead, behind := "("+digit+sign+other+")", "("+other+sign+digit+")"
				expectNeutral(t, neutralAhead[digit+sign], ahead, other)
				expectNeutral(t, neutralBehind[sign+digit], behind, other)
			}
			expectUnruled(t, "("+other+sign+other+")", "("+other+sign+"(x+x))")
		}
	}
}

func expectNeutral(t *testing.T, is bool, s, other string) {
	t.Helper()
	if is {
		expectRules(t, []ruled{{s, impl.RuleNeutral, other}})
	} else {
		expectUnruled(t, s)
	}
}

func TestTermsThatAreAlmostNeutral(t *testing.T) {
	expectRules(t, []ruled{
		{"(x+0)", impl.RuleNeutral, "x"}, {"(0+y)", impl.RuleNeutral, "y"}, {"(Sa-0)", impl.RuleNeutral, "Sa"},
		{"(x^0)", impl.RuleNeutral, "x"}, {"(0^y)", impl.RuleNeutral, "y"},
		{"(1*y)", impl.RuleNeutral, "y"}, {"(x*1)", impl.RuleNeutral, "x"},
		{"((2+3)+0)", impl.RuleNeutral, "(2+3)"}, {"(0+(0+x))", impl.RuleNeutral, "(0+x)"}, {"((x-0)-0)", impl.RuleNeutral, "(x-0)"},
	})
	expectUnruled(t, "(0-y)", "(1^y)", "(0*y)", "(x*0)", "(x^1)", "(x+1)", "(1+y)", "(x-1)", "(1-y)", "(a@0)", "(0@x)", "(1@x)", "(a@1)", "(0=y)", "(x=0)", "(1=y)", "(0<y)", "(x<0)", "(x<1)",
		"((x+0)*2)", "(2*(0+x))", "S(x+0)", "((2-2)+x)", "(x+(0+0))")
}

func TestLeavesOutTurns(t *testing.T) {
	for _, other := range []string{"a", "b", "x", "3", "Ca", "Sa", "(x+y)", "[x:b>Sx]", "{x:a>y}"} {
		for _, outer := range strings.Split(signsBefore, "") {
			for _, inner := range strings.Split(signsBefore, "") {
				s := outer + inner + other
				switch {
				case inner != "R" || !strings.Contains("RSMN", outer):
					expectUnruled(t, s)
				case outer == "R":
					expectRules(t, []ruled{{s, impl.RuleTurn, other}})
				default:
					expectRules(t, []ruled{{s, impl.RuleTurn, outer + other}})
				}
			}
		}
	}
	expectRules(t, []ruled{
		{"RRRa", impl.RuleTurn, "Ra"}, {"RRRRa", impl.RuleTurn, "RRa"}, {"SRRa", impl.RuleTurn, "SRa"}, {"NRRRb", impl.RuleTurn, "NRRb"},
		{"NR[x:b>Sx]", impl.RuleTurn, "N[x:b>Sx]"}, {"MRPRa", impl.RuleTurn, "MPRa"},
	})
	expectUnruled(t, "PRa", "CRb", "IRa", "RSa", "RPRa", "PRRa", "CRRb", "R[x:a>RRb]", "S[x:a>x]", "Ra", "Rb")
}

func TestLeavesOutLoops(t *testing.T) {
	for _, v := range strings.Split(loopVariable, "") {
		for _, each := range strings.Split(anyVariable+"0123456789", "") {
			number := strings.Contains("123456789", each)
			for _, over := range []string{"a", "b", v, each, "[w:a>1]", "Ra"} {
				forEach, those := "["+v+":"+over+">"+each+"]", "{"+v+":"+over+">"+each+"}"
				if each == v {
					expectRules(t, []ruled{{forEach, impl.RuleLoop, over}})
				} else if over != "[w:a>1]" {
					expectUnruled(t, forEach)
				}
				if number {
					expectRules(t, []ruled{{those, impl.RuleLoop, over}})
				} else {
					expectUnruled(t, those)
				}
			}
		}
	}
	expectUnruled(t, "[x:b>y]", "{x:a>x}", "[x:b>Rx]", "[x:b>RRx]", "[x:b>(x+0)]", "[x:b>[x:x>x]]", "{x:b>0}", "{x:b>(1+1)}", "{x:b>Nx}", "{x:b>Sa}", "[x:b>1]")
	expectRules(t, []ruled{
		{"[x:[x:b>x]>x]", impl.RuleLoop, "[x:b>x]"}, {"[x:[y:b>Sy]>x]", impl.RuleLoop, "[y:b>Sy]"}, {"[x:{y:b>Sy}>x]", impl.RuleLoop, "{y:b>Sy}"},
		{"{x:{y:b>Sy}>2}", impl.RuleLoop, "{y:b>Sy}"}, {"{x:[y:b>Sy]>9}", impl.RuleLoop, "[y:b>Sy]"},
	})
}

func TestTakesTheLengthOfWhatALoopGoesOver(t *testing.T) {
	expectRules(t, []ruled{
		{"N[x:b>Sx]", impl.RuleLength, "Nb"}, {"N[x:a>0]", impl.RuleLength, "Na"}, {"N[v:Cb>b]", impl.RuleLength, "NCb"}, {"N[z:I9>z]", impl.RuleLength, "NI9"},
		{"N[x:[y:a>(y+1)]>(x*x)]", impl.RuleLength, "N[y:a>(y+1)]"}, {"N[x:{y:a>y}>x]", impl.RuleLength, "N{y:a>y}"}, {"N[x:Ra>x]", impl.RuleLength, "NRa"},
	})
	expectUnruled(t, "N{x:b>Sx}", "N{x:b>0}", "N{x:b>1}", "S[x:a>x]", "M[x:b>Sx]", "R[x:b>Sx]", "P[x:b>Sx]", "I[x:b>Sx]", "C[x:b>x]", "Nb", "N(x+[x:b>Sx])", "N3", "NNa", "NPa", "NC[x:a>b]")
}

func TestFusesALoopOverALoop(t *testing.T) {
	expectRules(t, []ruled{
		{"[x:[y:a>(y+1)]>(x*2)]", impl.RuleFuse, "[y:a>((y+1)*2)]"},
		{"[x:[y:b>Sy]>(9+x)]", impl.RuleFuse, "[y:b>(9+Sy)]"},
		// The variable stands nowhere.
		{"[x:[y:a>(y+1)]>3]", impl.RuleFuse, "[y:a>3]"}, {"[x:[y:a>(y+1)]>a]", impl.RuleFuse, "[y:a>a]"}, {"[x:[y:a>(y+1)]>z]", impl.RuleFuse, "[y:a>z]"},
		// It stands once, and elsewhere where it is bound.
		{"[x:[y:b>y]>(Nx+S[x:a>x])]", impl.RuleFuse, "[y:b>(Ny+S[x:a>x])]"}, {"[x:[y:a>(y+1)]>S[x:a>(x+x)]]", impl.RuleFuse, "[y:a>S[x:a>(x+x)]]"},
		// Both loops have the same variable.
		{"[x:[x:a>(x+1)]>(x*2)]", impl.RuleFuse, "[x:a>((x+1)*2)]"}, {"[x:[x:x>Sx]>(x+a)]", impl.RuleFuse, "[x:x>(Sx+a)]"}, {"[x:[x:b>Sx]>7]", impl.RuleFuse, "[x:b>7]"},
		// The variable of the inner loop stands where it is bound.
		{"[x:[y:a>(y+1)]>(x+S[y:a>y])]", impl.RuleFuse, "[y:a>((y+1)+S[y:a>y])]"},
		// That of the outer one stands within the inner one, for something else.
		{"[x:[y:a>(x+y)]>(x*2)]", impl.RuleFuse, "[y:a>((x+y)*2)]"}, {"[x:[y:x>Sy]>(x*2)]", impl.RuleFuse, "[y:x>(Sy*2)]"},
		// Three loops, from without.
		{"[x:[y:[z:a>(z+1)]>(y*2)]>(x^3)]", impl.RuleFuse, "[y:[z:a>(z+1)]>((y*2)^3)]"},
	})
	expectUnruled(t,
		"[x:[y:a>(y+1)]>(x*x)]", "[x:[y:a>(y+1)]>((x+1)*(2-x))]", "[x:[y:b>y]>(Nx+(Sx+Mx))]", "[x:[x:a>(x+1)]>(x*x)]",
		"[x:[y:a>(y+1)]>(x+y)]", "[x:[y:a>(y+1)]>y]", "[x:[y:a>(y+1)]>S[z:a>y]]", "[x:[y:a>(y+1)]>S[y:Iy>2]]",
		"{x:[y:a>(y+1)]>(x*2)}", "[x:{y:a>(y+1)}>(x*2)]", "{x:{y:a>(y+1)}>(x*2)}", "[x:R[y:a>(y+1)]>(x*2)]", "[x:a>[y:b>Sy]]", "[x:(3+[y:a>y])>2]", "[x:a>(x*2)]",
	)
}

func TestFusesWhereTheVariableIsWithinALoop(t *testing.T) {
	expectRules(t, []ruled{
		// Within the first part of a loop, also of one that binds it, and within the first part of a first part.
		{"[x:[y:a>(y+1)]>[z:Ix>(z+2)]]", impl.RuleFuse, "[y:a>[z:I(y+1)>(z+2)]]"},
		{"[x:[y:a>(y+1)]>{x:Ix>(x<2)}]", impl.RuleFuse, "[y:a>{x:I(y+1)>(x<2)}]"},
		{"[x:[y:b>Py]>[y:x>(y+2)]]", impl.RuleFuse, "[y:b>[y:Py>(y+2)]]"},
		{"[x:[y:b>Py]>[z:{w:x>w}>(z+2)]]", impl.RuleFuse, "[y:b>[z:{w:Py>w}>(z+2)]]"},
		{"[x:[y:b>Py]>[x:{x:x>x}>(x+x)]]", impl.RuleFuse, "[y:b>[x:{x:Py>x}>(x+x)]]"},
	})
	expectUnruled(t,
		// Within the second part, also within the first part of a loop there, or the second part of a first part.
		"[x:[y:a>(y+1)]>[z:a>x]]", "[x:[y:a>(y+1)]>{z:a>x}]", "[x:[y:a>(y+1)]>S[z:a>(z+x)]]", "[x:[y:b>y]>[z:a>[w:x>w]]]", "[x:[y:a>y]>[z:[w:a>x]>(z+z)]]",
		// Once within each part.
		"[x:[y:a>(y+1)]>[z:Ix>x]]",
		"[x:[x:a>(x+1)]>[z:a>x]]",
	)
}

func TestFusesIfNothingWouldBeBound(t *testing.T) {
	expectRules(t, []ruled{
		// z and y stand in what comes in, beside a loop that binds them or in its first part.
		{"[x:[y:a>(y+z)]>[z:Ix>(z+2)]]", impl.RuleFuse, "[y:a>[z:I(y+z)>(z+2)]]"},
		{"[x:[y:a>(y+z)]>(x+S[z:a>z])]", impl.RuleFuse, "[y:a>((y+z)+S[z:a>z])]"},
		{"[x:[y:a>(y+x)]>(x+S[x:a>x])]", impl.RuleFuse, "[y:a>((y+x)+S[x:a>x])]"},
		// z is bound within what comes in.
		{"[x:[y:a>S[z:a>(y+z)]]>(x+Nz)]", impl.RuleFuse, "[y:a>(S[z:a>(y+z)]+Nz)]"},
	})
	expectUnruled(t, "[x:[y:a>(y+z)]>[z:a>x]]", "[x:[y:a>(y+z)]>S[z:a>(z+x)]]", "[x:[y:a>(y+1)]>[y:a>x]]", "[x:[y:a>y]>[y:a>[z:x>1]]]")
}

func TestTheFirstRuleIsUsed(t *testing.T) {
	expectRules(t, []ruled{
		{"(0+3)", impl.RuleFold, "3"}, {"(3+0)", impl.RuleFold, "3"}, {"(0^7)", impl.RuleFold, "7"}, {"(1*8)", impl.RuleFold, "8"}, {"(8*1)", impl.RuleFold, "8"}, {"(6-0)", impl.RuleFold, "6"}, {"(1*1)", impl.RuleFold, "1"},
		{"[x:[y:a>(y+1)]>x]", impl.RuleLoop, "[y:a>(y+1)]"}, {"[x:[x:a>(x+1)]>x]", impl.RuleLoop, "[x:a>(x+1)]"},
		// What would be simplified within parts is left.
		{"N[x:RRa>(1+1)]", impl.RuleLength, "NRRa"}, {"(0+(1+1))", impl.RuleNeutral, "(1+1)"}, {"RR[x:a>x]", impl.RuleTurn, "[x:a>x]"}, {"[x:[y:a>y]>(1+1)]", impl.RuleFuse, "[y:a>(1+1)]"},
	})
}

// A left is what is left of a term, and how often each rule is used.
type left struct {
	s, want string
	counts  []int
}

func expectAllLeft(t *testing.T, list []left) {
	t.Helper()
	for _, c := range list {
		expectLeft(t, c.s, c.want, c.counts)
		expectSimplified(t, pictureOf(c.s))
		expectSameSimplified(t, c.s, "[3,0,10006]", "[[1,2],[],[3]]")
	}
}

func TestSimplifiesInSeveralRounds(t *testing.T) {
	expectAllLeft(t, []left{
		{"((1+2)+(3+3))", "9", []int{0, 3, 0, 0, 0, 0, 0}},
		{"((5+5)+(3+3))", "((5+5)+6)", []int{0, 1, 0, 0, 0, 0, 0}},
		{"((4<5)*Sa)", "Sa", []int{0, 1, 1, 0, 0, 0, 0}},
		{"(Sa+(3-7))", "Sa", []int{0, 1, 1, 0, 0, 0, 0}},
		{"((2-1)*(0+((1*3)+4)))", "7", []int{0, 5, 0, 0, 0, 0, 0}},
		{"RRRRRa", "Ra", []int{0, 0, 0, 2, 0, 0, 0}},
		{"SRRRa", "Sa", []int{0, 0, 0, 2, 0, 0, 0}},
		{"R[x:Ra>x]", "a", []int{0, 0, 0, 1, 1, 0, 0}},
		{"N{x:[y:b>Sy]>(1=1)}", "Nb", []int{0, 1, 0, 0, 1, 1, 0}},
		{"N[x:[y:Rb>Sy]>(x+x)]", "Nb", []int{0, 0, 0, 1, 0, 2, 0}},
		{"NRN[x:a>1]", "NNa", []int{0, 0, 0, 1, 0, 1, 0}},
		{"[x:[y:a>(y+1)]>(x*(2-1))]", "[y:a>(y+1)]", []int{0, 1, 1, 0, 1, 0, 0}},
		{"[x:b>[y:x>(y+0)]]", "b", []int{0, 0, 1, 0, 2, 0, 0}},
		// The inner parts become something to which the rule for the whole applies.
		{"[x:[y:a>(y+1)]>((x-0)*(2+0))]", "[y:a>((y+1)*2)]", []int{0, 1, 1, 0, 0, 0, 1}},
		{"[x:RR[y:a>(y+1)]>(x*2)]", "[y:a>((y+1)*2)]", []int{0, 0, 0, 1, 0, 0, 1}},
		// What a loop becomes has parts that can be simplified then.
		{"[x:[y:b>Ry]>Sx]", "[y:b>Sy]", []int{0, 0, 0, 1, 0, 0, 1}},
		{"[x:[y:b>Ry]>Rx]", "b", []int{0, 0, 0, 1, 1, 0, 1}},
		{"[x:[y:a>2]>(x+3)]", "[y:a>5]", []int{0, 1, 0, 0, 0, 0, 1}},
		{"[x:[y:a>1]>(x*Sa)]", "[y:a>Sa]", []int{0, 0, 1, 0, 0, 0, 1}},
		{"[x:[y:b>[z:y>(z+1)]]>Nx]", "[y:b>Ny]", []int{0, 0, 0, 0, 0, 1, 1}},
		{"[x:[y:a>1]>{z:b>x}]", "[x:[y:a>1]>{z:b>x}]", []int{0, 0, 0, 0, 0, 0, 0}},
		{"[x:[y:[z:a>(z+1)]>(y*2)]>(x^3)]", "[z:a>(((z+1)*2)^3)]", []int{0, 0, 0, 0, 0, 0, 2}},
		// Only the variable that stands twice keeps this from becoming one loop, until it is left out.
		{"[x:[y:a>(y+2)]>((x*2)+N[z:Ix>x])]", "[x:[y:a>(y+2)]>((x*2)+NIx)]", []int{0, 0, 0, 0, 0, 1, 0}},
		{"[x:[y:a>(y+2)]>N[z:Ix>x]]", "[y:a>NI(y+2)]", []int{0, 0, 0, 0, 0, 1, 1}},
		{"SR[x:[y:a>(y+0)]>(x*(2-1))]", "Sa", []int{0, 1, 2, 1, 2, 0, 0}},
		{"(RRa@((1+1)*1))", "(a@2)", []int{0, 2, 0, 1, 0, 0, 0}},
		{"(RRa@(Na*(2-1)))", "(a@Na)", []int{0, 1, 1, 1, 0, 0, 0}},
		{"N[x:RRb>(9*9)]", "Nb", []int{0, 0, 0, 1, 0, 1, 0}},
	})
}

// A part is simplified ahead of the whole, which is seen where the rules used are others from without.
func TestPartsAreSimplifiedFirst(t *testing.T) {
	expectAllLeft(t, []left{
		{"N[x:a>(1+1)]", "Na", []int{0, 1, 0, 0, 0, 1, 0}},
		{"(0+(0+(1+1)))", "2", []int{0, 3, 0, 0, 0, 0, 0}},
		{"N[x:b>x]", "Nb", []int{0, 0, 0, 0, 1, 0, 0}},
		{"[x:[y:a>y]>(x+1)]", "[x:a>(x+1)]", []int{0, 0, 0, 0, 1, 0, 0}},
		{"NR[x:b>x]", "Nb", []int{0, 0, 0, 1, 1, 0, 0}},
		{"[x:[y:a>(1+1)]>3]", "[y:a>3]", []int{0, 1, 0, 0, 0, 0, 1}},
		{"N[x:[y:a>(y+1)]>(x+1)]", "Na", []int{0, 0, 0, 0, 0, 1, 1}},
		{"N[x:[y:a>(y+1)]>x]", "Na", []int{0, 0, 0, 0, 1, 1, 0}},
	})
}

func TestTermsThatAreSimple(t *testing.T) {
	for _, s := range []string{
		"0", "9", "a", "b", "x", "z", "Sa", "Ra", "I3", "PRa", "CRb", "(5+5)", "(a@0)", "(0-Sa)", "(Sa+1)", "((5+5)*(9*9))", "[x:b>Sx]", "{x:b>0}", "{x:b>Sx}", "N{x:a>x}",
		"[x:a>1]", "[x:[y:a>(y+1)]>(x*x)]", "[x:{y:b>Ny}>[z:x>(z+1)]]", "{x:[y:a>(y+1)]>(x<3)}", "S[x:a>(x*x)]", "R{x:Ra>(x<3)}",
	} {
		expectLeft(t, s, s, make([]int, 7))
		expectUnruled(t, s)
	}
	for _, s := range []string{"(1+1)", "RRa", "SRa", "S(RRa@0)", "[x:b>[y:x>y]]", "R[x:RRb>Sx]", "(Sa+(Sa+0))", "{x:a>(x<(1+1))}", "N{x:b>1}"} {
		if impl.IsSimple(s) {
			t.Errorf("%q is simple", s)
		}
	}
}

// Rules need no depth, and no arrays.
func TestTermsThatGiveNothingAreSimplified(t *testing.T) {
	expectAllLeft(t, []left{
		{"(a+0)", "a", []int{0, 0, 1, 0, 0, 0, 0}},
		{"(0+b)", "b", []int{0, 0, 1, 0, 0, 0, 0}},
		{"RR3", "3", []int{0, 0, 0, 1, 0, 0, 0}},
		{"SRR(x+(2+2))", "S(x+4)", []int{0, 1, 0, 1, 0, 0, 0}},
		{"[x:3>x]", "3", []int{0, 0, 0, 0, 1, 0, 0}},
		{"{x:z>9}", "z", []int{0, 0, 0, 0, 1, 0, 0}},
		{"N[x:3>(x+b)]", "N3", []int{0, 0, 0, 0, 0, 1, 0}},
		{"[x:[y:1>Sy]>(x@z)]", "[y:1>(Sy@z)]", []int{0, 0, 0, 0, 0, 0, 1}},
		{"(w+(1^0))", "(w+1)", []int{0, 1, 0, 0, 0, 0, 0}},
	})
	for _, s := range []string{"SS1", "(a+b)", "(b@b)", "Pb", "I(a-1)", "y"} {
		expectLeft(t, s, s, make([]int, 7))
	}
}

func TestTermsThatGiveSomethingWithAReasonAreSimplified(t *testing.T) {
	a, b := repeated(numberTree(1), 150).text(), repeated(numbersTree(), 100).text()
	for s, c := range map[string]struct{ why, left, text, reason string }{
		"S[x:a>N[y:a>(x+y)]]":    {"work", "S[x:a>Na]", strconv.Itoa(150 * 150 % 10007), ""},
		"S[x:b>N[y:b>(1+1)]]":    {"work", "S[x:b>Nb]", strconv.Itoa(100 * 100), ""},
		"[x:b>(S[y:a>(y*y)]+0)]": {"work", "[x:b>S[y:a>(y*y)]]", "", "work"},
		"RR[x:b>a]":              {"long", "[x:b>a]", "", "long"},
	} {
		if _, why := impl.RunTerm(s, a, b); why != c.why {
			t.Errorf("%q ends with %q, not %q", s, why, c.why)
		}
		if got, ok := impl.SimplifyTerm(s); got != c.left || !ok {
			t.Errorf("SimplifyTerm(%q) = %q, %v, not %q", s, got, ok, c.left)
		}
		if text, why := impl.RunTerm(c.left, a, b); text != c.text || why != c.reason {
			t.Errorf("%q gives %q, %q, not %q, %q", c.left, text, why, c.text, c.reason)
		}
		expectSimplified(t, pictureOf(s))
	}
}

func TestTextsThatAreNoTermsHaveNoRule(t *testing.T) {
	for _, s := range []string{
		"", " ", "q", "c", "aa", "S", "R", "RR", "Sab", "2+3", "(2+3", "2+3)", "(2 3)", "(2/3)", "(2+3) ", " (2+3)", "((2+3))", "()", "(x+)", "(+x)", "RRa ", "RRq", "RR",
		"[x:b>x", "[x:b>x}", "{x:b>1]", "[a:b>a]", "[b:b>b]", "[x b>x]", "[x:b x]", "[xy:b>x]", "[:b>x]", "N[x:b>]", "N[x:>x]", "10", "-1", "(10+1)", "\x00", "\xff", "(2+\xff)", "b [x x S ]", "(\xb2+3)",
	} {
		expectNoRule(t, s)
	}
	for _, size := range []int{100, 1000, 100000} {
		expectNoRule(t, strings.Repeat("R", size)+"a")
		expectNoRule(t, strings.Repeat("(0+", size)+"a"+strings.Repeat(")", size))
		expectNoRule(t, strings.Repeat("(", size))
	}
}

// A wrapping is a term that is wrapped again and again, what is left of that, or nothing if it is not told, and by which rule.
type wrapping struct {
	start, ahead, behind, left string
	rule                       int
}

// text returns the term, wrapped as long as it fits into so many bytes and filled up by signs, the signs, and how often it is wrapped.
func (w wrapping) text(size int) (s, signs string, times int) {
	s = w.start
	for len(s)+len(w.ahead)+len(w.behind) <= size {
		s = w.ahead + s + w.behind
		times++
	}
	signs = strings.Repeat("P", size-len(s))
	return signs + s, signs, times
}

func TestLongTermsAreSimplified(t *testing.T) {
	for _, w := range []wrapping{
		{"a", "(0+", ")", "a", impl.RuleNeutral},
		{"a", "(", "-0)", "a", impl.RuleNeutral},
		{"0", "(0^", ")", "0", impl.RuleFold},
		{"9", "(9*", ")", "", impl.RuleFold},
		{"b", "RR", "", "b", impl.RuleTurn},
		{"Sb", "SR", "", "", impl.RuleTurn},
		{"a", "[x:", ">x]", "a", impl.RuleLoop},
		{"a", "[x:a>", "]", "", impl.RuleLoop},
		{"x", "[x:x>", "]", "x", impl.RuleLoop},
		{"a", "{x:", ">5}", "a", impl.RuleLoop},
		{"a", "N[x:", ">b]", "", impl.RuleLength},
		{"[y:a>1]", "[x:", ">7]", "[y:a>7]", impl.RuleFuse},
		{"[y:a>Sy]", "[x:", ">Px]", "", impl.RuleFuse},
		{"[x:a>Sx]", "[x:", ">(x+x)]", "", impl.RuleFuse},
		{"[x:a>(x+2)]", "[x:", ">(x+2)]", "", impl.RuleFuse},
	} {
		for size := 76; size <= 80; size++ {
			s, signs, times := w.text(size)
			counts := expectSimplified(t, pictureOf(s))
			if got, _ := impl.SimplifyTerm(s); w.left != "" && (got != signs+w.left || counts[w.rule] != times) {
				t.Errorf("%q is left of %q by %v, not %q by %d", got, s, counts, signs+w.left, times)
			}
		}
		for size := 81; size <= 84; size++ {
			s, _, _ := w.text(size)
			expectNoRule(t, s)
		}
	}
}

func TestAllSmallTermsAreSimplified(t *testing.T) {
	for _, list := range picturesUpTo(12) {
		for _, p := range list {
			expectSimplified(t, p)
			expectSameSimplified(t, p.text(), "[2,0,1]", "[[],[10006,3]]")
		}
	}
}

func TestAllSmallLoopsOverLoopsAreFused(t *testing.T) {
	fused := 0
	seconds := append(slices.Concat(picturesUpTo(9)...),
		between("+", leaf("x"), leaf("y")), between("+", leaf("y"), leaf("y")), before("S", leaf("y")), looped("[", "y", leaf("y"), leaf("x")), looped("[", "z", leaf("x"), leaf("y")), looped("{", "y", leaf("x"), leaf("y")))
	for _, v := range []string{"x", "y"} {
		for _, w := range []string{"x", "y", "z"} {
			for _, inner := range []string{"1", "x", "y", "z", "Sy", "(x+y)", "[x:a>x]", "[y:x>z]"} {
				for _, u := range seconds {
					counts := expectSimplified(t, looped("[", v, looped("[", w, leaf("a"), pictureOf(inner)), u))
					fused += counts[impl.RuleFuse]
				}
			}
		}
	}
	if fused < 1000 {
		t.Errorf("only %d loops are fused", fused)
	}
}

func TestRandomTermsAreSimplified(t *testing.T) {
	source := rand.New(rand.NewSource(101))
	for range 30000 {
		p := randomPicture(source, 1+source.Intn(25))
		if len(p.text()) > 80 {
			expectNoRule(t, p.text())
		} else {
			expectSimplified(t, p)
		}
	}
}

// wordy returns a term of a depth to which rules apply, at many places.
func wordy(source *rand.Rand, s scope, depth int, size int) picture {
	if size <= 1 || source.Intn(5) == 0 {
		return randomOfDepth(source, s, depth, size)
	}
	of := func(depth int) picture { return wordy(source, s, depth, size/2) }
	pick := func(list ...string) string { return list[source.Intn(len(list))] }
	bound, other := pick("v", "x", "y", "z"), pick("w", "x", "y", "z")
	over := 1 + source.Intn(3)
	each := source.Intn(3)
	loop := func(depth int) picture {
		return looped("[", other, of(over), wordy(source, s.with(other, over-1), depth, size/3))
	}
	fused := func(depth int) picture {
		return looped("[", bound, loop(each), wordy(source, s.with(bound, each), depth-1, size/3))
	}
	if depth == 0 {
		return []func() picture{
			func() picture { return between(pick("+", "^"), leaf("0"), of(0)) },
			func() picture { return between(pick("+", "^", "-"), of(0), leaf("0")) },
			func() picture { return between("*", leaf("1"), of(0)) },
			func() picture { return between("*", of(0), leaf("1")) },
			func() picture {
				return between(pick("+", "*", "^", "-", "=", "<"), leaf(pick("2", "3", "6")), leaf(pick("1", "3")))
			},
			func() picture { return before(pick("S", "M", "N"), before("R", of(1))) },
			func() picture { return before("N", loop(source.Intn(3))) },
			func() picture { return before(pick("S", "M"), fused(1)) },
			func() picture { return between("@", of(1), of(0)) },
			func() picture { return between(pick("+", "*", "<"), of(0), of(0)) },
		}[source.Intn(10)]()
	}
	return []func() picture{
		func() picture { return before("R", before("R", of(depth))) },
		func() picture { return looped("[", bound, of(depth), leaf(bound)) },
		func() picture { return looped("{", bound, of(depth), leaf(pick("0", "1", "9"))) },
		func() picture { return fused(depth) },
		func() picture { return fused(depth) },
		func() picture { return loop(depth - 1) },
	}[source.Intn(6)]()
}

func TestSimplifiedTermsGiveTheSameWithNoMoreWork(t *testing.T) {
	source := rand.New(rand.NewSource(102))
	used, given := make([]int, 7), 0
	for round := range 12000 {
		p := wordy(source, scope{"a": 1, "b": 2}, round%4, 1+source.Intn(60))
		if len(p.text()) > 80 {
			continue
		}
		for rule, count := range expectSimplified(t, p) {
			used[rule] += count
		}
		if p.depth("ab", []int{1, 2}) != round%4 {
			t.Errorf("%q does not give the depth %d", p.text(), round%4)
		}
		given += oneFor(expectSameSimplified(t, p.text(), fewNumbers(source).text(), fewLists(source).text()))
	}
	if given < 5000 || slices.Min(used[1:]) < 500 {
		t.Errorf("only %d terms give something, with the rules used %v times", given, used)
	}
}

func TestSimplifiedTermsAtTheLimitOfWork(t *testing.T) {
	s, left := "SPPPP[x:[y:a>(y+1)]>(x*(9+(9+(9+9))))]", "SPPPP[y:a>((y+1)*(9+(9+(9+9))))]"
	expectLeft(t, s, left, []int{0, 0, 0, 0, 0, 0, 1})
	for count, work := range map[int]int{165: 1988, 166: 2000, 167: -1} {
		a := repeated(numberTree(1), count).text()
		if got, less := impl.WorkOf(s, a, "[]"), impl.WorkOf(left, a, "[]"); got != work || less != 7+11*count {
			t.Errorf("WorkOf of %d numbers = %d, and %d when it is simplified", count, got, less)
		}
		if given := expectNoMoreWork(t, s, left, a, "[]"); given != (work > 0) {
			t.Errorf("for %d numbers %q gives something: %v", count, s, given)
		}
	}
}

func TestSimplifyingAtOnceGivesTheSame(t *testing.T) {
	s := "SR[x:[y:a>(y+0)]>(x*(2-1))]"
	var group sync.WaitGroup
	for range 8 {
		group.Go(func() {
			for range 200 {
				expectLeft(t, s, "Sa", []int{0, 1, 2, 1, 2, 0, 0})
			}
		})
	}
	group.Wait()
}

func TestCountsOfRulesAreNewMemory(t *testing.T) {
	call := func() []int {
		list, _ := impl.CountRules("RR[x:b>x]")
		return list[:cap(list)]
	}
	if !markAll([][]int{call(), call()}) {
		t.Error("CountRules keeps memory")
	}
	if got := fmt.Sprint(call()[:7]); got != "[0 0 0 1 1 0 0]" {
		t.Errorf("CountRules again = %v", got)
	}
}
