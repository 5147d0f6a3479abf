package tests

import (
	"math/rand"
	"slices"
	"strconv"
	"strings"
	"testing"

	"loop.example/flatarrays/impl"
)

func numberTree(n int) tree { return tree{0, n, nil} }

// numbersTree returns the array of the depth 1 with numbers.
func numbersTree(numbers ...int) tree {
	a := tree{depth: 1}
	for _, n := range numbers {
		a.parts = append(a.parts, numberTree(n))
	}
	return a
}

// listsTree returns the array of the depth 2 with arrays of the depth 1.
func listsTree(lists ...tree) tree { return tree{2, 0, lists} }

// repeated returns an array with the same part again and again.
func repeated(part tree, count int) tree {
	return tree{part.depth + 1, 0, slices.Repeat([]tree{part}, count)}
}

// pictureOf returns the picture of a term, as chapter 5 takes it apart.
func pictureOf(s string) picture {
	p := leaf(impl.SignOf(s))
	for _, part := range impl.PartsOfTerm(s) {
		p.parts = append(p.parts, pictureOf(part))
	}
	if p.sign == "[" || p.sign == "{" {
		p.bound = s[1:2]
	}
	return p
}

// textSize returns how many bytes the text of an array has.
func (a tree) textSize() int {
	if a.depth == 0 {
		return len(strconv.Itoa(a.value))
	}
	size := 2 + max(len(a.parts)-1, 0)
	for _, part := range a.parts {
		size += part.textSize()
	}
	return size
}

// oneFor returns 1 for true, 0 for false.
func oneFor(is bool) int {
	if is {
		return 1
	}
	return 0
}

// applied returns what a sign gives of one array, or of an array and a number.
func applied(sign string, a tree, n int) tree {
	if strings.Contains(signsBetween, sign) {
		return numberTree(appliedToNumbers(sign, a, n))
	}
	result := tree{depth: depthsOfSigns[sign][a.depth]}
	add := func(parts ...tree) { result.parts = append(result.parts, parts...) }
	sum := 0
	switch sign {
	case "I":
		for i := 0; i < a.value && i < 12; i++ {
			add(numberTree(i))
		}
	case "N":
		result.value = len(a.parts) % 10007
	case "R":
		for i := range a.parts {
			add(a.parts[len(a.parts)-1-i])
		}
	case "C":
		for _, part := range a.parts {
			add(part.parts...)
		}
	case "P":
		for _, part := range a.parts {
			add(numberTree(sum % 10007))
			sum += part.value
		}
	case "S":
		for _, part := range a.parts {
			result.value = (result.value + part.value) % 10007
		}
	case "M":
		for _, part := range a.parts {
			result.value = max(result.value, part.value)
		}
	}
	return result
}

func appliedToNumbers(sign string, a tree, n int) int {
	switch sign {
	case "+":
		return (a.value + n) % 10007
	case "*":
		return a.value * n % 10007
	case "^":
		return max(a.value, n)
	case "-":
		return max(a.value-n, 0)
	case "=":
		return oneFor(a.value == n)
	case "<":
		return oneFor(a.value < n)
	}
	if n < len(a.parts) {
		return a.parts[n].value
	}
	return 0
}

// A counter counts the terms that the tests' own run evaluates, up to a limit.
type counter struct{ work int }

// tooGreat is the panic of a run in which the tests will not go on.
type tooGreat struct{ reason string }

// given returns what a term gives where variables stand for arrays, and in how many steps.
func (p picture) given(c *counter, vars map[string]tree) (tree, int) {
	c.work++
	if c.work > 2000 {
		panic(tooGreat{"work"})
	}
	if p.bound != "" {
		return p.givenByLoop(c, vars)
	}
	if len(p.parts) == 0 {
		if a, ok := vars[p.sign]; ok {
			return a, 1
		}
		n, _ := strconv.Atoi(p.sign)
		return numberTree(n), 1
	}
	first, steps := p.parts[0].given(c, vars)
	second := numberTree(0)
	if len(p.parts) == 2 {
		more := 0
		second, more = p.parts[1].given(c, vars)
		steps += more
	}
	a := applied(p.sign, first, second.value)
	if len(a.parts) > 1000000 {
		panic(tooGreat{"memory"})
	}
	return a, steps + 1
}

func (p picture) givenByLoop(c *counter, vars map[string]tree) (tree, int) {
	over, steps := p.parts[0].given(c, vars)
	inner := map[string]tree{}
	for name, a := range vars {
		inner[name] = a
	}
	list, most := tree{depth: over.depth}, 0
	for _, part := range over.parts {
		inner[p.bound] = part
		each, more := p.parts[1].given(c, inner)
		most = max(most, more)
		switch {
		case p.sign == "[":
			list.parts = append(list.parts, each)
		case each.value != 0:
			list.parts = append(list.parts, part)
		}
	}
	if p.sign == "[" {
		names, depths := "", []int{}
		for name, a := range vars {
			names, depths = names+name, append(depths, a.depth)
		}
		list.depth = p.parts[1].depth(names+p.bound, append(depths, over.depth-1)) + 1
	}
	return list, steps + 1 + most
}

// A ran is what the functions of one term are to return.
type ran struct {
	text, why   string
	work, steps int
}

// run returns what a run is to return, and true; false if that would take too much memory.
func (p picture) run(a, b tree) (want ran, ok bool) {
	defer func() {
		if fault, is := recover().(tooGreat); is {
			want, ok = ran{"", fault.reason, -1, -1}, fault.reason == "work"
		}
	}()
	if len(p.text()) > 80 || p.depth("ab", []int{1, 2}) < 0 || a.textSize() > 400 || b.textSize() > 400 {
		return ran{"", "wrong", -1, -1}, true
	}
	c := new(counter)
	given, steps := p.given(c, map[string]tree{"a": a, "b": b})
	if given.textSize() > 400 {
		return ran{"", "long", c.work, steps}, true
	}
	return ran{given.text(), "", c.work, steps}, true
}

// expectRan checks what the functions of one term return.
func expectRan(t *testing.T, s, a, b string, want ran) {
	t.Helper()
	if text, why := impl.RunTerm(s, a, b); text != want.text || why != want.why {
		t.Errorf("RunTerm(%q, %.99q, %.99q) = %q, %q, not %q, %q", s, a, b, text, why, want.text, want.why)
	}
	if work := impl.WorkOf(s, a, b); work != want.work {
		t.Errorf("WorkOf(%q, %.99q, %.99q) = %d, not %d", s, a, b, work, want.work)
	}
	if steps := impl.StepsOf(s, a, b); steps != want.steps {
		t.Errorf("StepsOf(%q, %.99q, %.99q) = %d, not %d", s, a, b, steps, want.steps)
	}
	if same := impl.GivesSame(s, s, a, b); same != (want.why == "") {
		t.Errorf("GivesSame(%q, %q, %.99q, %.99q) = %v", s, s, a, b, same)
	}
	if depth := impl.DepthOfTerm(s); want.why == "" && !impl.ArrayValid(want.text, depth) {
		t.Errorf("%q gives %q, which is not of the depth %d", s, want.text, depth)
	}
	expectFlat(t, s, a, b, want)
}

// expectRun checks a term on pictures of arrays, and returns what it is to give.
func expectRun(t *testing.T, p picture, a, b tree) ran {
	t.Helper()
	want, ok := p.run(a, b)
	if ok {
		expectRan(t, p.text(), a.text(), b.text(), want)
	}
	return want
}

// A given is what a term gives of two arrays.
type given struct {
	s, want     string
	work, steps int
}

func expectGiven(t *testing.T, a, b string, list []given) {
	t.Helper()
	for _, c := range list {
		expectRan(t, c.s, a, b, ran{c.want, "", c.work, c.steps})
	}
}

func TestLimitsOfRuns(t *testing.T) {
	if impl.MaxWork != 2000 || impl.MaxCount != 12 {
		t.Errorf("the limits are %d and %d", impl.MaxWork, impl.MaxCount)
	}
}

func TestSignsGive(t *testing.T) {
	expectGiven(t, "[3,1,2]", "[[1,2],[],[3]]", []given{
		{"0", "0", 1, 1},
		{"7", "7", 1, 1},
		{"a", "[3,1,2]", 1, 1},
		{"b", "[[1,2],[],[3]]", 1, 1},
		{"Sa", "6", 2, 2},
		{"Ma", "3", 2, 2},
		{"I3", "[0,1,2]", 2, 2},
		{"Na", "3", 2, 2},
		{"Nb", "3", 2, 2},
		{"N[x:b>[y:x>x]]", "3", 12, 6},
		{"Ra", "[2,1,3]", 2, 2},
		{"Rb", "[[3],[],[1,2]]", 2, 2},
		{"R[x:b>[y:x>x]]", "[[[3]],[],[[1,2],[1,2]]]", 12, 6},
		{"RRa", "[3,1,2]", 3, 3},
		{"Cb", "[1,2,3]", 2, 2},
		{"C[x:b>[y:x>x]]", "[[1,2],[1,2],[3]]", 12, 6},
		{"CC[x:b>[y:x>x]]", "[1,2,1,2,3]", 13, 7},
		{"Pa", "[0,3,4]", 2, 2},
		{"PPa", "[0,0,3]", 3, 3},
		{"PRa", "[0,2,3]", 3, 3},
		{"RPa", "[4,3,0]", 3, 3},
		{"(4+5)", "9", 3, 3},
		{"(4*5)", "20", 3, 3},
		{"(4^5)", "5", 3, 3},
		{"(5^4)", "5", 3, 3},
		{"(5-4)", "1", 3, 3},
		{"(4-5)", "0", 3, 3},
		{"(4-4)", "0", 3, 3},
		{"(4=4)", "1", 3, 3},
		{"(4=5)", "0", 3, 3},
		{"(5=4)", "0", 3, 3},
		{"(4<5)", "1", 3, 3},
		{"(4<4)", "0", 3, 3},
		{"(5<4)", "0", 3, 3},
		{"(a@0)", "3", 3, 3},
		{"(a@1)", "1", 3, 3},
		{"((a@2)-(Sa*(9<Nb)))", "2", 11, 11},
	})
}

func TestSumsAndProductsOfWhichModulusIsTakenAway(t *testing.T) {
	expectGiven(t, "[10006,1,10006,2,5004]", "[]", []given{
		{"((a@0)+(a@1))", "0", 7, 7},
		{"((a@0)+(a@3))", "1", 7, 7},
		{"((a@0)+(a@2))", "10005", 7, 7},
		{"((a@0)+0)", "10006", 5, 5},
		{"((a@0)*(a@2))", "1", 7, 7},
		{"((a@0)*(a@3))", "10005", 7, 7},
		{"((a@3)*(a@4))", "1", 7, 7},
		{"((a@0)*(a@1))", "10006", 7, 7},
		{"((a@0)*0)", "0", 5, 5},
		{"Sa", "5005", 2, 2},
		{"Pa", "[0,10006,0,10006,1]", 2, 2},
		{"PRa", "[0,5004,5006,5005,5006]", 3, 3},
		{"Ma", "10006", 2, 2},
		{"((a@0)-(a@2))", "0", 7, 7},
		{"((a@1)-(a@0))", "0", 7, 7},
		{"((a@0)-(a@1))", "10005", 7, 7},
		{"((a@0)^(a@1))", "10006", 7, 7},
		{"((a@0)<(a@2))", "0", 7, 7},
		{"((a@1)<(a@0))", "1", 7, 7},
		{"((a@0)=(a@2))", "1", 7, 7},
	})
	// Sums that are Modulus, and one less and more, and of which it is taken away many times.
	expectGiven(t, "[10006,1]", "[]", []given{{"Sa", "0", 2, 2}, {"PRa", "[0,1]", 3, 3}, {"SRa", "0", 3, 3}})
	expectGiven(t, "[10005,1]", "[]", []given{{"Sa", "10006", 2, 2}})
	expectGiven(t, "[10006,2]", "[]", []given{{"Sa", "1", 2, 2}})
	expectRun(t, before("S", leaf("a")), repeated(numberTree(10006), 66), listsTree())
	expectRun(t, before("M", before("P", leaf("a"))), repeated(numberTree(10006), 66), listsTree())
}

func TestCountingUp(t *testing.T) {
	twelve := "[0,1,2,3,4,5,6,7,8,9,10,11]"
	expectGiven(t, "[10,12,13,14,10006]", "[]", []given{
		{"I0", "[]", 2, 2},
		{"I1", "[0]", 2, 2},
		{"I2", "[0,1]", 2, 2},
		{"I9", "[0,1,2,3,4,5,6,7,8]", 2, 2},
		{"I(a@0)", "[0,1,2,3,4,5,6,7,8,9]", 4, 4},
		{"I(9+2)", "[0,1,2,3,4,5,6,7,8,9,10]", 4, 4},
		{"I(9+3)", twelve, 4, 4},
		{"I(9+4)", twelve, 4, 4},
		{"I(a@1)", twelve, 4, 4},
		{"I(a@2)", twelve, 4, 4},
		{"I(a@3)", twelve, 4, 4},
		{"I(a@4)", twelve, 4, 4},
		{"NI(9*9)", "12", 5, 5},
		{"I(3-5)", "[]", 4, 4},
	})
}

func TestLoopsOverNothing(t *testing.T) {
	expectGiven(t, "[]", "[[],[]]", []given{
		{"a", "[]", 1, 1},
		{"Sa", "0", 2, 2},
		{"Ma", "0", 2, 2},
		{"Na", "0", 2, 2},
		{"Ra", "[]", 2, 2},
		{"Pa", "[]", 2, 2},
		{"Cb", "[]", 2, 2},
		{"(a@0)", "0", 3, 3},
		{"[x:a>x]", "[]", 2, 2},
		{"{x:a>x}", "[]", 2, 2},
		{"[x:a>(x+(x+x))]", "[]", 2, 2},
		{"{x:a>(x+(x+x))}", "[]", 2, 2},
		{"[x:Ra>b]", "[]", 3, 3},
		{"N[x:a>b]", "0", 3, 3},
		{"C[x:a>b]", "[]", 3, 3},
		{"CC[x:a>b]", "[]", 4, 4},
		{"SCC[x:a>b]", "0", 5, 5},
		{"M[x:I0>9]", "0", 4, 4},
		{"[x:b>x]", "[[],[]]", 4, 3},
		{"[x:b>[y:x>(y+1)]]", "[[],[]]", 6, 4},
		{"[x:b>{y:x>(y+1)}]", "[[],[]]", 6, 4},
		{"{x:b>Nx}", "[]", 6, 4},
		{"{x:b>1}", "[[],[]]", 4, 3},
		{"{x:a>1}", "[]", 2, 2},
		{"[x:{y:b>0}>[z:x>z]]", "[]", 5, 4},
		{"[x:[y:b>[z:y>a]]>Nx]", "[0,0]", 11, 7},
	})
	expectGiven(t, "[]", "[]", []given{{"b", "[]", 1, 1}, {"Cb", "[]", 2, 2}, {"Nb", "0", 2, 2}, {"[x:b>[y:x>a]]", "[]", 2, 2}, {"{x:b>Sx}", "[]", 2, 2}})
}

func TestLoopsOfBothKindsWithinLoops(t *testing.T) {
	expectGiven(t, "[3,0,2]", "[[1,2],[],[0,4,0]]", []given{
		{"[x:a>x]", "[3,0,2]", 5, 3},
		{"{x:a>x}", "[3,2]", 5, 3},
		{"{x:a>(x<3)}", "[0,2]", 11, 5},
		{"[x:b>Sx]", "[3,0,4]", 8, 4},
		{"{x:b>Sx}", "[[1,2],[0,4,0]]", 8, 4},
		{"[x:b>{y:x>y}]", "[[1,2],[],[4]]", 13, 5},
		{"{x:b>N{y:x>(y=0)}}", "[[0,4,0]]", 26, 8},
		{"[x:b>[y:x>(y*Nx)]]", "[[2,4],[],[0,12,0]]", 28, 8},
		{"[x:{y:b>Ny}>[z:x>(z+1)]]", "[[2,3],[1,5,1]]", 28, 10},
		{"{x:[y:b>Sy]>(x-3)}", "[4]", 18, 8},
		{"[x:a>[y:{z:a>(x<z)}>(y-x)]]", "[[],[3,2],[1]]", 47, 11},
		{"[x:b>[y:x>[z:x>(y+z)]]]", "[[[2,3],[3,4]],[],[[0,4,0],[4,8,4],[0,4,0]]]", 57, 9},
	})
	expectGiven(t, "[5]", "[[],[7,8]]", []given{
		{"[x:a>[y:b>[z:y>(x*z)]]]", "[[[],[35,40]]]", 14, 9},
		{"[x:a>{y:b>Ny}]", "[[[7,8]]]", 8, 6},
		{"{x:a>N{y:b>Ny}}", "[5]", 9, 7},
	})
}

func TestVariablesBoundTwiceStandForTheInnermostPart(t *testing.T) {
	expectGiven(t, "[2,5]", "[[1,2],[],[3]]", []given{
		{"[x:b>[x:x>x]]", "[[1,2],[],[3]]", 11, 5},
		{"[x:b>[x:x>(x+1)]]", "[[2,3],[],[4]]", 17, 7},
		{"[x:b>(N[x:x>x]+Nx)]", "[4,0,2]", 23, 9},
		{"[x:b>(Nx+N[x:x>x])]", "[4,0,2]", 23, 9},
		{"[x:b>([x:x>(x*9)]@Sx)]", "[0,0,0]", 26, 10},
		{"[x:b>(S{x:x>(x-1)}+Sx)]", "[5,0,6]", 29, 11},
		{"[x:[x:b>Sx]>(x+1)]", "[4,1,4]", 18, 8},
		{"{x:b>S{x:x>(x-1)}}", "[[1,2],[3]]", 20, 8},
		{"[x:b>[x:a>x]]", "[[2,5],[2,5],[2,5]]", 14, 5},
		{"[x:a>(S[x:Cb>x]+x)]", "[8,11]", 20, 9},
		{"(S[x:b>Sx]+S[x:a>x])", "13", 15, 10},
		{"[y:b>[y:Ry>(y*2)]]", "[[4,2],[],[6]]", 20, 8},
		{"[x:b>[y:a>(y+Sx)]]", "[[5,8],[2,5],[5,8]]", 32, 8},
		{"[v:a>[w:a>[z:I1>(v+w)]]]", "[[[4],[7]],[[7],[10]]]", 30, 10},
	})
}

func TestNumbersAtIndices(t *testing.T) {
	expectGiven(t, "[7,8]", "[[9],[]]", []given{
		{"(a@0)", "7", 3, 3},
		{"(a@1)", "8", 3, 3},
		{"(a@2)", "0", 3, 3},
		{"(a@9)", "0", 3, 3},
		{"(Ra@1)", "7", 4, 4},
		{"(Cb@0)", "9", 4, 4},
		{"(Cb@1)", "0", 4, 4},
		{"(I0@0)", "0", 4, 4},
		{"(I1@0)", "0", 4, 4},
		{"(I1@1)", "0", 4, 4},
		{"(a@(a@0))", "0", 5, 5},
		{"(I9@8)", "8", 4, 4},
		{"(I9@9)", "0", 4, 4},
		{"[x:b>(x@0)]", "[9,0]", 8, 5},
		{"[x:b>(x@1)]", "[0,0]", 8, 5},
		{"(PCb@1)", "0", 5, 5},
		{"(a@(Na-1))", "8", 6, 6},
		{"(a@Na)", "0", 4, 4},
	})
	a := randomNumbers(rand.New(rand.NewSource(16)), 80)
	for size := 78; size <= 80; size++ {
		at := pictureOf("(a@((9*8)+7))") // The index 79.
		want := expectRun(t, at, numbersTree(a[:size]...), listsTree())
		if last := strconv.Itoa(a[79]); (want.text == last) != (size == 80) {
			t.Errorf("the number with the index 79 of %d is %q", size, want.text)
		}
	}
	expectGiven(t, "[10006,5]", "[]", []given{{"(a@(a@0))", "0", 5, 5}, {"(Ra@(a@0))", "0", 6, 6}})
}

func TestStepsOfLoopsWhosePartsTakeDifferentSteps(t *testing.T) {
	expectGiven(t, "[0]", "[[1],[],[1,2]]", []given{
		{"[x:b>[y:x>1]]", "[[1],[],[1,1]]", 11, 5},
		{"[x:b>[y:x>RRa]]", "[[[0]],[],[[0],[0]]]", 17, 7},
		{"[x:b>[y:{z:x>(z-1)}>RRa]]", "[[],[],[[0]]]", 23, 11},
		{"[x:b>N[y:{z:x>(z=1)}>Ra]]", "[1,0,1]", 27, 11},
		{"{x:b>N[y:x>a]}", "[[1],[1,2]]", 14, 6},
		{"[x:b>(N[y:x>1]+N[y:a>y])]", "[2,1,3]", 29, 11},
		{"[x:a>[y:{z:a>z}>RRRa]]", "[[]]", 6, 6},
		{"[x:{y:b>0}>RRRa]", "[]", 6, 4},
		{"[x:b>{y:I(2-Nx)>SRRRa}]", "[[],[],[]]", 35, 13},
	})
}

// zeros returns an array of so many zeros.
func zeros(count int) tree { return repeated(numberTree(0), count) }

// expectWork checks that a term has so much work, be its text too long or not.
func expectWork(t *testing.T, s string, a, b tree, work int) {
	t.Helper()
	want := expectRun(t, pictureOf(s), a, b)
	if want.work != work || (want.why == "work") != (work < 0) {
		t.Errorf("%q has the work %d, not %d: %q", s, want.work, work, want.why)
	}
}

func TestWorkToTheLimit(t *testing.T) {
	r := func(count int) string { return strings.Repeat("R", count) }
	none := tree{depth: 1}
	for more, work := range []int{1999, 2000, -1, -1} {
		lists := repeated(none, 111)
		expectWork(t, r(62+more)+"[x:a>[y:a>1]]", zeros(43), lists, work)
		expectWork(t, r(62+more)+"[x:a>{y:a>1}]", zeros(43), lists, work)
		expectWork(t, "(S[x:a>S[y:a>1]]+N"+r(15+more)+"a)", zeros(43), lists, work)
		expectWork(t, "(N"+r(15+more)+"a+S[x:a>S[y:a>1]])", zeros(43), lists, work)
		expectWork(t, "(S[x:a>S[y:a>1]]+S[x:a>(x*"+strconv.Itoa(more)+")])", zeros(43), lists, -1)
		expectWork(t, "NR"+r(more)+"[x:C[y:I(5+5)>a]>1]", zeros(198), lists, work)
		expectWork(t, "[x:C[y:I(5+"+strconv.Itoa(4+more)+")>a]>1]", zeros(199), lists, []int{1807, -1, -1, -1}[more])
	}
	for more, work := range []int{1990, 2000, -1} {
		expectWork(t, "NRR[x:C[y:I(5+5)>a]>1]", zeros(197+more), listsTree(), work)
	}
	for more, work := range []int{1889, 2000, -1, -1} {
		expectWork(t, "[x:b>"+r(16+more)+"x]", zeros(3), repeated(none, 111), work)
		expectWork(t, "{x:b>N"+r(15+more)+"x}", zeros(3), repeated(none, 111), work)
	}
	// A loop over more parts than there may be work, however little is done for each.
	expectWork(t, "[x:C[y:b>a]>1]", zeros(199), repeated(none, 133), -1)
	expectWork(t, "{x:C[y:b>a]>1}", zeros(199), repeated(none, 133), -1)
	expectWork(t, "[w:b>[x:b>[y:b>S[z:b>Nz]]]]", zeros(1), repeated(none, 133), -1)
	expectWork(t, "[v:a>S[w:a>S[x:a>S[y:a>S[z:a>S[v:a>S[w:a>1]]]]]]]", zeros(199), repeated(none, 133), -1)
}

func TestTextsToTheLimit(t *testing.T) {
	found := map[int]int{}
	expect := func(s string, a, b tree) {
		t.Helper()
		p := pictureOf(s)
		want := expectRun(t, p, a, b)
		given, _ := p.given(new(counter), map[string]tree{"a": a, "b": b})
		if size := given.textSize(); want.why != "wrong" {
			found[size]++
			if (want.why == "") != (size <= 400) {
				t.Errorf("%q gives a text of %d bytes: %q", s, size, want.why)
			}
		}
	}
	for size := 390; size <= 400; size++ {
		for _, s := range []string{"a", "Ra", "[x:a>x]", "[x:I1>a]", "R[x:I1>a]", "[x:I1>[y:I1>a]]", "[x:a>(x*9)]", "Pa", "RPRa"} {
			expect(s, onesTree(size, 1), listsTree())
		}
		for _, s := range []string{"b", "Rb", "[x:I1>b]", "[x:b>[y:I1>x]]", "[x:b>x]", "Cb", "{x:b>1}"} {
			expect(s, zeros(1), onesTree(size, 2))
		}
	}
	for size := 190; size <= 200; size++ {
		expect("[x:I2>a]", onesTree(size, 1), listsTree())
		expect("[x:I2>Ra]", onesTree(size, 1), listsTree())
		expect("[x:I2>b]", zeros(1), onesTree(size, 2))
	}
	for count := range 101 {
		for _, first := range []int{0, 1, 10, 100, 1000} {
			a := numbersTree(append([]int{first}, slices.Repeat([]int{100}, count)...)...)
			expect("Pa", a, listsTree())
			expect("[x:I1>Pa]", a, listsTree())
			expectAppliedTo(t, "P", a, 0)
		}
	}
	if found[400] < 10 || found[401] < 10 {
		t.Errorf("only %d texts are just short enough, and %d just too long", found[400], found[401])
	}
}

func TestReasonsAndWhichComesFirst(t *testing.T) {
	a, b := ones(199), "["+strings.Repeat("[],", 130)+"[]]"
	for _, c := range []struct{ s, a, b, why string }{
		{"[x:b>a]", a, b, "long"},
		{"[x:b>C[y:b>a]]", a, b, "work"},
		{"[x:C[y:b>a]>1]", a, b, "work"},
		{"[x:a>[y:a>[z:a>9]]]", a, b, "work"},
		{"[x:b>a]", a + " ", b, "wrong"},
		{"[x:b>a]", a, b + " ", "wrong"},
		{"[x:C[y:b>a]>1]", "", b, "wrong"},
		{"[x:C[y:b>a]>1]", a, "", "wrong"},
		{"[x:C[y:b>a]>1]", b, a, "wrong"},
		{"[x:C[y:b>a]>(1+z)]", a, b, "wrong"},
		{"[x:b>[y:b>b]]", a, b, "wrong"},
		{"[x:b>a", a, b, "wrong"},
		{"1", "1", "[]", "wrong"},
		{"1", "[]", "1", "wrong"},
		{"1", "[]", "[1]", "wrong"},
		{"1", "[[]]", "[]", "wrong"},
	} {
		want := ran{"", c.why, -1, -1}
		if c.why == "long" {
			want.work, want.steps = 2+131, 3
		}
		expectRan(t, c.s, c.a, c.b, want)
	}
}

func TestNoTermsOrArraysToRun(t *testing.T) {
	wrong := ran{"", "wrong", -1, -1}
	for _, s := range []string{"", " ", "q", "aa", "S", "Sab", "(a+b", "[x:b>Sx", "[a:b>1]", "\x00", "\xff", "x", "Nx", "Sb", "Ia", "I3a", "[x:1>x]", "[x:a>Sx]", "{x:a>a}", "[x:a>[y:a>b]]", "(1@1)", "(a@a)", "(a+1)", "C1", "Ca", "Pb", "M1", strings.Repeat("R", 80) + "a", strings.Repeat("R", 100000) + "a"} {
		expectRan(t, s, "[]", "[]", wrong)
		expectRan(t, s, "[1,2]", "[[1,2],[],[3]]", wrong)
		for _, u := range []string{"a", "1", "I0", s} {
			if impl.GivesSame(s, u, "[1,2]", "[[1]]") || impl.GivesSame(u, s, "[1,2]", "[[1]]") {
				t.Errorf("GivesSame(%.20q, %q)", s, u)
			}
		}
	}
	for _, c := range []struct {
		s      string
		depths []int
	}{
		{"", nil}, {" ", nil}, {"1", nil}, {"x", nil}, {"[", nil}, {"[1", nil}, {"[1,]", nil}, {"[ ]", nil}, {"[] ", nil}, {"[01]", nil}, {"[10007]", nil}, {"[-1]", nil}, {"[1,[1]]", nil}, {"[[[1]]]", nil}, {"\x00", nil}, {"[\xff]", nil},
		{"[]", []int{1, 2}}, {"[1]", []int{1}}, {"[10006,0]", []int{1}}, {"[[]]", []int{2}}, {"[[1,2],[],[3]]", []int{2}},
		{ones(400), []int{1}}, {ones(401), nil}, {onesOf(400, 2), []int{2}}, {onesOf(401, 2), nil}, {strings.Repeat("[", 100000), nil},
	} {
		isA, isB := slices.Contains(c.depths, 1), slices.Contains(c.depths, 2)
		if impl.InputsValid(c.s, "[]") != isA || impl.InputsValid(c.s, "[[1],[]]") != isA || impl.InputsValid("[]", c.s) != isB || impl.InputsValid("[7,8]", c.s) != isB || impl.InputsValid(c.s, c.s) != (isA && isB) {
			t.Errorf("InputsValid is wrong for %.30q", c.s)
		}
		if !isA {
			expectRan(t, "1", c.s, "[]", wrong)
			expectRan(t, "b", c.s, "[[1]]", wrong)
		}
		if !isB {
			expectRan(t, "1", "[]", c.s, wrong)
			expectRan(t, "a", "[1]", c.s, wrong)
		}
	}
}

func TestGivesSame(t *testing.T) {
	a, b := ones(199), "["+strings.Repeat("[],", 130)+"[]]"
	for _, c := range []struct {
		t, u, a, b string
		same       bool
	}{
		{"SRa", "Sa", "[1,2]", "[]", true},
		{"Sa", "3", "[1,2]", "[]", true},
		{"Sa", "Ma", "[1,2]", "[]", false},
		{"Sa", "Ma", "[2,0]", "[]", true},
		{"a", "Ra", "[1,2]", "[]", false},
		{"a", "Ra", "[2,2]", "[]", true},
		{"a", "Cb", "[1,2]", "[[1],[],[2]]", true},
		{"a", "Cb", "[1,2]", "[[1],[],[2],[0]]", false},
		{"a", "b", "[]", "[]", false},
		{"b", "a", "[]", "[]", false},
		{"a", "I0", "[]", "[]", true},
		{"b", "[x:b>a]", "[]", "[]", true},
		{"[x:b>b]", "b", "[]", "[]", false},
		{"[x:b>b]", "[x:a>b]", "[]", "[]", true},
		{"{x:a>0}", "{x:b>0}", "[1]", "[[1]]", false},
		{"I1", "0", "[]", "[]", false},
		{"[x:b>a]", "[x:b>a]", a, b, false},
		{"[x:b>a]", "b", a, b, false},
		{"b", "[x:b>a]", a, b, false},
		{"C[x:b>a]", "C[x:b>Ra]", a, b, false},
		{"NC[x:b>a]", "(Na*Nb)", a, b, true},
		{"[x:C[x:b>a]>1]", "[x:C[x:b>a]>1]", a, b, false},
		{"N[x:C[x:b>a]>1]", "0", a, b, false},
		{"0", "N[x:C[x:b>a]>1]", a, b, false},
		{"a", "a", "[1", "[]", false},
		{"a", "a", "[1]", "", false},
	} {
		if got := impl.GivesSame(c.t, c.u, c.a, c.b); got != c.same {
			t.Errorf("GivesSame(%q, %q, %.20q, %.20q) = %v", c.t, c.u, c.a, c.b, got)
		}
	}
}

// expectAppliedTo checks ApplySign of an array, or of one and a number if the sign takes two, both right.
func expectAppliedTo(t *testing.T, sign string, a tree, n int) {
	t.Helper()
	parts := []string{a.text()}
	if strings.Contains(signsBetween, sign) {
		parts = append(parts, strconv.Itoa(n))
	}
	want := ""
	if given := applied(sign, a, n); given.textSize() <= 400 && a.textSize() <= 400 {
		want = given.text()
	}
	expectApplied(t, sign, parts, a.depth, want)
}

// expectApplied checks what ApplySign returns: a text, or nothing if that is empty.
func expectApplied(t *testing.T, sign string, parts []string, depth int, want string) {
	t.Helper()
	if got, ok := impl.ApplySign(sign, parts, depth); got != want || ok != (want != "") {
		t.Errorf("ApplySign(%.20q, %.99q, %d) = %q, %v, not %q", sign, parts, depth, got, ok, want)
	}
}

// arraysOfDepths has some arrays of each depth.
func arraysOfDepths() [][]tree {
	some := listsTree(numbersTree(1, 2), numbersTree(), numbersTree(3))
	return [][]tree{
		{numberTree(0), numberTree(1), numberTree(2), numberTree(5), numberTree(11), numberTree(12), numberTree(13), numberTree(10006)},
		{numbersTree(), numbersTree(0), numbersTree(7), numbersTree(3, 1, 2), numbersTree(10006, 10006, 2), zeros(12), zeros(13), onesTree(400, 1)},
		{listsTree(), listsTree(numbersTree()), some, listsTree(numbersTree(4), numbersTree(5, 6)), onesTree(400, 2)},
		{{depth: 3}, repeated(listsTree(), 2), repeated(some, 3), {3, 0, []tree{some, listsTree(), listsTree(numbersTree(9))}}, onesTree(400, 3)},
	}
}

// takes reports whether a sign gives something of so many parts, the first one of a depth.
func takes(sign string, parts int, depth int) bool {
	switch {
	case len(sign) != 1 || depth < 0 || depth > 3:
		return false
	case strings.Contains(signsBefore, sign):
		return parts == 1 && depthsOfSigns[sign][depth] >= 0
	case strings.Contains(signsBetween, sign):
		return parts == 2 && depth == oneFor(sign == "@")
	default:
		return false
	}
}

func TestApplySignOfEachDepth(t *testing.T) {
	signs := []string{"", "SS", "S ", " S", "S\x00", "+-", "++", "[x", "{}", "SMINRCP", "Sum", "é", "＋"}
	for c := range 256 {
		signs = append(signs, string([]byte{byte(c)}))
	}
	arrays := arraysOfDepths()
	for _, sign := range signs {
		for _, list := range arrays {
			for _, a := range list {
				for depth := -1; depth <= 4; depth++ {
					expectAnyApplied(t, sign, a, depth)
				}
			}
		}
		for _, depth := range append([]int{0, 1, 2, 3}, noDepths...) {
			expectApplied(t, sign, nil, depth, "")
			expectApplied(t, sign, []string{}, depth, "")
		}
	}
}

// expectAnyApplied checks ApplySign of an array that is taken for one of any depth, and of more parts.
func expectAnyApplied(t *testing.T, sign string, a tree, depth int) {
	t.Helper()
	s := a.text()
	right, taken := a.fits(depth), a.as(depth)
	if right && takes(sign, 1, depth) {
		expectAppliedTo(t, sign, taken, 0)
	} else {
		expectApplied(t, sign, []string{s}, depth, "")
	}
	for _, n := range []int{0, 1, 2, 3, 12, 10006} {
		if right && takes(sign, 2, depth) {
			expectAppliedTo(t, sign, taken, n)
		} else {
			expectApplied(t, sign, []string{s, strconv.Itoa(n)}, depth, "")
		}
	}
	for _, second := range []string{"", "x", "[]", "[1]", "01", "10007", "-1", " 1", "1 ", s + " "} {
		expectApplied(t, sign, []string{s, second}, depth, "")
	}
	expectApplied(t, sign, []string{s, "1", "1"}, depth, "")
	expectApplied(t, sign, []string{s, s, s}, depth, "")
	expectApplied(t, sign, []string{s + " "}, depth, "")
	expectApplied(t, sign, []string{s + ",", "1"}, depth, "")
	expectApplied(t, sign, []string{"", "1"}, depth, "")
}

// fits reports whether an array is one of a depth, as one without parts is of each from 1 on.
func (a tree) fits(depth int) bool {
	if a.depth == 0 || depth < 1 || depth > 3 {
		return a.depth == 0 && depth == 0
	}
	return !slices.ContainsFunc(a.parts, func(part tree) bool { return !part.fits(depth - 1) })
}

// as returns an array as one of a depth.
func (a tree) as(depth int) tree {
	taken := tree{depth, a.value, nil}
	for _, part := range a.parts {
		taken.parts = append(taken.parts, part.as(depth-1))
	}
	return taken
}

func TestApplySignOfNoArrays(t *testing.T) {
	for _, sign := range strings.Split(signsBefore+signsBetween, "") {
		for _, s := range []string{"", " ", "x", "a", "1 ", "01", "10007", "-1", "[", "[1", "[1,]", "[01]", "[10007]", "[1 ]", "[1,[1]]", "[[[[]]]]", "\x00", "[\xff]", ones(401), onesOf(401, 2), onesOf(401, 3)} {
			for depth := range 4 {
				expectApplied(t, sign, []string{s}, depth, "")
				expectApplied(t, sign, []string{s, "1"}, depth, "")
				expectApplied(t, sign, []string{s, s}, depth, "")
				if s != "[]" && s != "1" {
					expectApplied(t, sign, []string{"1", s}, depth, "")
					expectApplied(t, sign, []string{"[1]", s}, depth, "")
				}
			}
		}
		for _, depth := range noDepths {
			for _, s := range []string{"1", "[]", "[[]]", "[[[]]]", "[[[[]]]]", "[[[1]]]"} {
				expectApplied(t, sign, []string{s}, depth, "")
				expectApplied(t, sign, []string{s, "1"}, depth, "")
			}
		}
	}
}

func TestApplySignToNumbers(t *testing.T) {
	source := rand.New(rand.NewSource(17))
	edges := []int{0, 1, 2, 5003, 5004, 10005, 10006}
	for _, sign := range strings.Split(strings.Trim(signsBetween, "@"), "") {
		for _, m := range edges {
			for _, n := range edges {
				expectAppliedTo(t, sign, numberTree(m), n)
			}
		}
		for range 1000 {
			expectAppliedTo(t, sign, numberTree(source.Intn(10007)), source.Intn(10007))
		}
	}
	for n := range 10007 {
		expectAppliedTo(t, "I", numberTree(n), 0)
		expectAppliedTo(t, "@", numbersTree(5, 6, 7), n)
	}
}

func TestAllSmallTermsRun(t *testing.T) {
	inputs := []struct{ a, b tree }{
		{numbersTree(), listsTree()},
		{numbersTree(2, 0, 1), listsTree(numbersTree(), numbersTree(10006, 3))},
	}
	for _, list := range picturesUpTo(12) {
		for _, p := range list {
			for _, c := range inputs {
				expectRun(t, p, c.a, c.b)
			}
		}
	}
}

// fewNumbers returns an array of the depth 1 of numbers that are small or great.
func fewNumbers(source *rand.Rand) tree {
	a := numbersTree()
	for range source.Intn(5) {
		n := source.Intn(6)
		if source.Intn(4) == 0 {
			n = 10006 - n
		}
		a.parts = append(a.parts, numberTree(n))
	}
	return a
}

// fewLists returns an array of the depth 2 of such arrays.
func fewLists(source *rand.Rand) tree {
	b := listsTree()
	for range source.Intn(5) {
		b.parts = append(b.parts, fewNumbers(source))
	}
	return b
}

// expectRandomRuns checks terms made to have each depth, with each reason among what they end with, and for each of them what more does.
func expectRandomRuns(t *testing.T, source *rand.Rand, rounds int, more func(p picture, a, b tree, want ran)) {
	t.Helper()
	reasons := map[string]int{}
	for round := range rounds {
		p := randomOfDepth(source, scope{"a": 1, "b": 2}, round%4, 1+source.Intn(60))
		a, b := fewNumbers(source), fewLists(source)
		if round%20 < 4 {
			a, b = repeated(numberTree(source.Intn(3)), 40), repeated(fewNumbers(source), 15)
		}
		want := expectRun(t, p, a, b)
		reasons[want.why]++
		more(p, a, b, want)
	}
	for _, why := range []string{"", "wrong", "work", "long"} {
		if reasons[why] < rounds/600 {
			t.Errorf("only %d terms end with %q", reasons[why], why)
		}
	}
}

func TestTermsGiveArraysOfTheirDepth(t *testing.T) {
	source := rand.New(rand.NewSource(18))
	expectRandomRuns(t, source, 12000, func(p picture, a, b tree, want ran) {
		expectSameAs(t, source, p, a, b, want)
	})
}

// otherTerm returns a term that gives the same as another one by more work, or any term.
func otherTerm(source *rand.Rand, p picture) picture {
	if source.Intn(2) == 0 {
		return before("R", before("R", p))
	}
	return randomOfDepth(source, scope{"a": 1, "b": 2}, source.Intn(4), 1+source.Intn(6))
}

// givesSame reports whether two terms give the same of two arrays, where first and second are what they give.
func givesSame(p, q picture, first, second ran) bool {
	depths := []int{1, 2}
	return first.why == "" && second.why == "" && first.text == second.text && p.depth("ab", depths) == q.depth("ab", depths)
}

// expectSameAs checks whether another term gives the same.
func expectSameAs(t *testing.T, source *rand.Rand, p picture, a, b tree, want ran) {
	t.Helper()
	q := otherTerm(source, p)
	other, ok := q.run(a, b)
	if !ok {
		return
	}
	same := givesSame(p, q, want, other)
	if got := impl.GivesSame(p.text(), q.text(), a.text(), b.text()); got != same {
		t.Errorf("GivesSame(%q, %q, %q, %q) = %v", p.text(), q.text(), a.text(), b.text(), got)
	}
}

// A long array is made by taking parts that are there again and again. These are terms of the depth 1.
var longArrays = []string{
	"C[x:b>a]",
	"Cb",
	"C[x:b>Px]",
	"C[x:b>C[y:I2>Rx]]",
	"CC[x:I3>[y:b>a]]",
	"CRC[x:I2>[y:a>b]]",
	"C[x:I9>C[y:b>a]]",
	"C[x:I3>PC[y:b>[z:a>x]]]",
}

func TestLongArrays(t *testing.T) {
	source := rand.New(rand.NewSource(19))
	pick := func(list ...string) string { return list[source.Intn(len(list))] }
	reasons := map[string]int{}
	for range 4000 {
		// What is bound to z in a loop over one part stands in the array that z is joined to many times.
		s := "[z:[y:I1>" + pick("", "P", "R", "PR", "RP", "PP") + pick(longArrays...) + "]>"
		moves := ""
		for range source.Intn(5) {
			moves += pick("P", "R", "PR")
		}
		s += pick("S", "M", "N", "", "[x:I1>") + moves + "C[x:" + pick("I3", "b", "a") + ">" + pick("", "P", "R", "RP") + "z]"
		if strings.Contains(s, "[x:I1>") {
			s += "]"
		}
		if moves != "" && source.Intn(3) == 0 {
			s = strings.Replace(s, ">"+moves, ">("+moves, 1) + "@(" + pick("Na", "Cb@1", "a@1") + "*" + pick("9", "3", "1") + "))"
			s = strings.Replace(s, "(Cb@1*", "((Cb@1)*", 1)
			s = strings.Replace(s, "(a@1*", "((a@1)*", 1)
		}
		s += "]"
		if !impl.TermValid(s) {
			continue
		}
		want := expectRun(t, pictureOf(s), fewNumbers(source), fewLists(source))
		reasons[want.why]++
	}
	if reasons[""] < 1000 || reasons["memory"] > 0 {
		t.Errorf("the terms end with %v", reasons)
	}
}

// choose returns in how many ways k of n things can be chosen, of which Modulus is taken away, for k up to 3.
func choose(n int, k int) int {
	ways := 1
	for i := range k {
		ways = ways * ((n - i) % 10007) % 10007
	}
	// What 1, 2 and 6 times it give 1.
	return ways * []int{1, 1, 5004, 1668}[k] % 10007
}

func TestArraysLongerThanMemory(t *testing.T) {
	b, around := "["+strings.Repeat("[],", 132)+"[]]", "[z:[y:I1>C[x:b>a]]>[v:[y:I1>C[x:b>z]]>[w:[y:I1>C[x:b>v]]>"
	work := func(head string) int { return 3*140 + len(head) + 136 }
	steps := func(head string) int { return 3*(1+1+2+4) + len(head) + 4 }
	expect := func(a tree, head string, want int) {
		t.Helper()
		given := "[[[" + strconv.Itoa(want) + "]]]"
		expectRan(t, around+head+"C[x:b>w]]]]", a.text(), b, ran{given, "", work(head), steps(head)})
	}
	n := 199 * 133 * 133 * 133 * 133
	ones := repeated(numberTree(1), 199)
	for head, want := range map[string]int{
		"N": choose(n, 1), "S": choose(n, 1), "SR": choose(n, 1), "SP": choose(n, 2), "SRP": choose(n, 2), "SPR": choose(n, 2),
		"SPP": choose(n, 3), "SRPP": choose(n, 3), "SPRP": (choose(n, 3)*2 + choose(n, 2)) % 10007, "M": 1, "MP": 10006, "MRP": 10006, "MRPR": 10006,
	} {
		expect(ones, head, want)
	}
	for _, head := range []string{"S", "M", "SP", "MP", "MPP", "MPPP", "MPRPR"} {
		expect(zeros(199), head, 0)
	}
	inTurn := numbersTree(slices.Repeat([]int{1, 10006}, 40)...)
	n = 80 * 133 * 133 * 133 * 133
	for head, want := range map[string]int{"N": choose(n, 1), "S": 0, "M": 10006, "MP": 1, "SP": choose(n/2, 1), "MRP": 1, "MPR": 10006} {
		expect(inTurn, head, want)
	}
	// In each place of a piece something else is added to its numbers.
	s := "[z:[y:I1>PC[x:b>a]]>[v:[y:I1>PC[x:b>z]]>[w:[y:I1>PC[x:b>v]]>MPC[x:b>w]]]]"
	expectRan(t, s, ones.text(), b, ran{"[[[10006]]]", "", 3*141 + 138, 3*9 + 6})
	twice := "[z:[y:I1>C[x:b>a]]>[v:[y:I1>C[x:b>z]]>"
	expectRan(t, twice+"C[x:b>v]]]", ones.text(), b, ran{"", "long", 2*140 + 136, 2*8 + 4})
	expectRan(t, twice+"PRC[x:b>v]]]", ones.text(), b, ran{"", "long", 2*140 + 138, 2*8 + 6})
	expectRan(t, twice+"[x:C[x:b>v]>1]]]", ones.text(), b, ran{"", "work", -1, -1})
	expectRan(t, twice+"{x:C[x:b>v]>1}]]", ones.text(), b, ran{"", "work", -1, -1})
}

func TestNumbersAtIndicesOfArraysLongerThanMemory(t *testing.T) {
	a, b := ones(399), "["+strings.Repeat("[],", 132)+"[]]"
	n := 199 * 133 * 133 * 133
	for _, c := range []struct {
		moves string
		want  int
	}{
		{"", 1}, {"P", 8 * 8}, {"RP", n - 1 - 8*8}, {"PP", choose(8*8, 2)}, {"PRP", 8*8*(n-1) - choose(8*8, 2)}, {"RPP", choose(n-1-8*8, 2)},
	} {
		s := "[z:[y:I1>C[x:b>a]]>[v:[y:I1>C[x:b>z]]>(" + c.moves + "C[x:b>v]@(8*8))]]"
		// The sums of what is turned round may be below nothing.
		want := "[[" + strconv.Itoa((c.want%10007+10007)%10007) + "]]"
		expectRan(t, s, a, b, ran{want, "", 2*140 + len(c.moves) + 140, 2*8 + len(c.moves) + 8})
	}
}

func TestRunsAtOnceGiveTheSame(t *testing.T) {
	source := rand.New(rand.NewSource(20))
	a, b := fewNumbers(source), fewLists(source)
	var terms []picture
	for round := range 50 {
		terms = append(terms, randomOfDepth(source, scope{"a": 1, "b": 2}, round%4, 40))
	}
	t.Run("at once", func(t *testing.T) {
		for range 8 {
			t.Run("run", func(t *testing.T) {
				t.Parallel()
				for _, p := range terms {
					expectRun(t, p, a, b)
				}
			})
		}
	})
}

func TestApplySignLeavesItsParts(t *testing.T) {
	for _, sign := range []string{"R", "C", "P", "@"} {
		parts := []string{"[3,1,2]", "1", "left"}
		for depth := range 4 {
			for count := range 3 {
				impl.ApplySign(sign, parts[:count], depth)
			}
		}
		if !slices.Equal(parts, []string{"[3,1,2]", "1", "left"}) {
			t.Errorf("ApplySign(%q) changes its parts to %q", sign, parts)
		}
	}
}
