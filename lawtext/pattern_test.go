package lawtext_test

import (
	"math/rand"
	"runtime/debug"
	"slices"
	"strings"
	"testing"

	"ablaut/api"
	"ablaut/inventory"
	"ablaut/lawtext"
	"ablaut/pats"
)

// compareNormal compares Normal with the model, and checks what the document says of normal forms.
func compareNormal(t *testing.T, q api.Pat) {
	t.Helper()
	n, e := lawtext.Normal(q)
	if e != api.OK || !samePat(n, modelNormal(q)) {
		t.Fatal("Normal", q, n, e, modelNormal(q))
	}
	if !isNormal(n) || pats.Check(n) != api.OK || pats.Size(n) > pats.Size(q) || isNormal(q) != samePat(n, q) {
		t.Fatal("Normal", q, n)
	}
	if again, e := lawtext.Normal(n); e != api.OK || !samePat(again, n) {
		t.Fatal("Normal of Normal", q, n, again, e)
	}
}

// comparePrint compares PrintPat with the model, and what is read from the text with the normal form.
func comparePrint(t *testing.T, v *inventory.Inv, feats []string, q api.Pat) {
	t.Helper()
	n := modelNormal(q)
	want := modelPat(feats, n)
	s, e := lawtext.PrintPat(v, q)
	if s != want || e != api.OK {
		t.Fatalf("PrintPat %v %q %v %q", q, s, e, want)
	}
	if x, e := lawtext.ParsePat(v, s); !samePat(x, n) || e != api.OK {
		t.Fatalf("ParsePat %q %v %v %v", s, x, e, n)
	}
}

// comparePat compares ParsePat with the model, and reports whether the text is one of a pattern.
func comparePat(t *testing.T, v *inventory.Inv, feats []string, s string) bool {
	t.Helper()
	want, ok := readPat(feats, s)
	if !ok {
		checkNoPat(t, v, s, api.ErrForm)
		return false
	}
	x, e := lawtext.ParsePat(v, s)
	if e != api.OK || !samePat(x, want) {
		t.Fatalf("ParsePat %q %v %v %v", s, x, e, want)
	}
	if text, e := lawtext.PrintPat(v, x); text != s || e != api.OK || !isNormal(x) {
		t.Fatalf("PrintPat of ParsePat %q %v %q %v", s, x, text, e)
	}
	return true
}

// checkNoPat checks the error for a text, and the zero value beside it.
func checkNoPat(t *testing.T, v *inventory.Inv, s string, want api.Errno) {
	t.Helper()
	if x, e := lawtext.ParsePat(v, s); e != want || !samePat(x, empty) {
		t.Errorf("ParsePat %.100q %d %v %v %v", s, len(s), x, e, want)
	}
}

// checkNoText checks the error for a pattern, and the zero value beside it.
func checkNoText(t *testing.T, v *inventory.Inv, q api.Pat, want api.Errno) {
	t.Helper()
	if s, e := lawtext.PrintPat(v, q); s != "" || e != want {
		t.Errorf("PrintPat %.200q %v %v", s, e, want)
	}
}

// P9.1
func TestNormalCases(t *testing.T) {
	for k, x := range []struct{ q, want api.Pat }{
		{empty, empty}, {begin, begin}, {end, end}, {vowel, vowel}, {other, other},
		// The first condition.
		{seq(), empty}, {seq(vowel), vowel}, {seq(empty), empty}, {seq(empty, empty, empty), empty}, {seq(empty, vowel, empty), vowel},
		{seq(vowel, empty, end), seq(vowel, end)}, {seq(seq(), vowel, seq(empty)), vowel}, {seq(seq(vowel, stop)), seq(vowel, stop)},
		{seq(begin, seq(vowel, stop), end), seq(begin, vowel, stop, end)}, {seq(seq(seq(seq(begin, vowel), stop), empty), seq(seq(end))), seq(begin, vowel, stop, end)},
		{seq(vowel, seq(stop)), seq(vowel, stop)}, {seq(rep(0, 1, empty)), rep(0, 1, empty)}, {seq(never(), never()), seq(never(), never())},
		// The second one.
		{alt(vowel), vowel}, {alt(empty), empty}, {alt(alt(alt(end))), end}, {never(), never()}, {alt(never()), never()},
		{alt(vowel, stop), alt(vowel, stop)}, {alt(empty, empty), alt(empty, empty)}, {alt(vowel, vowel), alt(vowel, vowel)}, {alt(alt(vowel, stop), end), alt(alt(vowel, stop), end)},
		// Both.
		{seq(alt(seq(vowel, stop)), end), seq(vowel, stop, end)}, {seq(alt(empty), vowel, alt(seq())), vowel}, {alt(seq(alt(vowel))), vowel}, {seq(alt(seq(empty, alt(seq())))), empty},
		{alt(seq(), seq(vowel)), alt(empty, vowel)}, {seq(alt(vowel), alt(stop)), seq(vowel, stop)}, {seq(alt(seq(vowel), seq(end)), empty), alt(vowel, end)},
		// In repetitions, which stay.
		{rep(1, 1, vowel), rep(1, 1, vowel)}, {rep(0, 0, seq()), rep(0, 0, empty)}, {rep(0, -1, alt(seq(vowel, empty, stop))), rep(0, -1, seq(vowel, stop))},
		{rep(2, 32, rep(0, 1, seq(alt(end)))), rep(2, 32, rep(0, 1, end))}, {seq(rep(1, 1, seq(vowel, stop)), end), seq(rep(1, 1, seq(vowel, stop)), end)},
		// The chapter's example.
		{seq(empty, alt(stop), seq(vowel)), seq(stop, vowel)},
	} {
		n, e := lawtext.Normal(x.q)
		if e != api.OK || !samePat(n, x.want) {
			t.Error(k, n, e, x.want)
		}
		if isNormal(x.q) != samePat(x.q, x.want) {
			t.Error("the model is wrong", k)
		}
		compareNormal(t, x.q)
	}
}

// P9.1, P9.9
func TestNormalModel(t *testing.T) {
	t.Parallel()
	for _, q := range allSmall(5) {
		compareNormal(t, q)
	}
	r := rand.New(rand.NewSource(1))
	for k := range 20000 {
		compareNormal(t, randomPat(r, 3, 1+k%40))
	}
}

// P9.1: many nodes, also such that are not in the normal form.
func TestNormalNodes(t *testing.T) {
	for k, x := range []struct{ q, want api.Pat }{
		{seq(times(39, empty)...), empty}, {seq(times(39, vowel)...), seq(times(39, vowel)...)}, {alt(times(39, empty)...), alt(times(39, empty)...)},
		{deep(40, vowel, seq()), vowel}, {deep(40, never(), alt()), never()}, {deep(40, seq(), seq(), alt()), empty}, {deep(40, end, seq(), rep(0, -1)), deep(20, end, rep(0, -1))},
		{deep(40, end, rep(3, 3)), deep(40, end, rep(3, 3))},
	} {
		if n, e := lawtext.Normal(x.q); e != api.OK || !samePat(n, x.want) {
			t.Error(k, n, e, x.want)
		}
		compareNormal(t, x.q)
	}
}

// P9.1, P9.2: what is not valid.
func TestPatternErrors(t *testing.T) {
	bad, errs := badPats()
	for i, q := range bad {
		if e := pats.Check(q); e != errs[i] {
			t.Error("the example is wrong", i, e)
		}
		if n, e := lawtext.Normal(q); e != errs[i] || !samePat(n, empty) {
			t.Error("Normal", i, n, e, errs[i])
		}
		checkNoText(t, made(three), q, errs[i])
		checkNoText(t, made(nil), q, errs[i])
		for _, v := range badInvs() {
			checkNoText(t, v, q, api.ErrNil)
		}
	}
	for _, v := range badInvs() {
		checkNoText(t, v, empty, api.ErrNil)
		checkNoText(t, v, vowel, api.ErrNil)
		checkNoText(t, v, sound(api.Sound{Plus: 8}), api.ErrNil)
	}
}

// P9.1, R4
func TestNormalMemory(t *testing.T) {
	shared := []api.Pat{vowel, rep(0, 1, vowel), seq(stop, end)}
	room := append(make([]api.Pat, 0, 9), begin, vowel)
	for k, q := range []api.Pat{
		seq(vowel, stop), alt(vowel, seq(stop, end)), rep(0, 1, seq(vowel, vowel)), seq(seq(seq(vowel, stop))), alt(alt(rep(0, 1, vowel))), seq(vowel, alt(seq(stop, stop)), end),
		alt(alt(shared...), alt(shared...), rep(1, 2, alt(shared...))), seq(alt(shared...), seq(shared...), seq(shared...)), alt(room...), seq(room...), seq(seq(room...)), alt(seq(room...)), rep(0, -1, alt(room...)),
		{Kind: api.PatSound, L: make([]api.Pat, 0, 4)}, {L: room[:0]}, {Kind: api.PatSeq, L: room[:0]}, {Kind: api.PatAlt, L: room[:0]}, alt(api.Pat{Kind: api.PatAlt, L: room[:0]}, api.Pat{Kind: api.PatEnd, L: room[:0]}),
	} {
		before, want := duplicate(q), modelNormal(q)
		n, _ := lawtext.Normal(q)
		if !samePat(q, before) || !samePat(n, want) {
			t.Error("the argument is changed", k)
		}
		again, _ := lawtext.Normal(q)
		change(&n)
		if !samePat(q, before) || !samePat(again, want) || !samePat(alt(room[:9]...), alt(append(slices.Clone(room), make([]api.Pat, 7)...)...)) {
			t.Error("the result is a part of something else", k)
		}
	}
	q := alt(vowel, seq(stop, end))
	n, _ := lawtext.Normal(q)
	change(&q)
	if !samePat(n, alt(vowel, seq(stop, end))) {
		t.Error("the argument is a part of the result", n)
	}
	// Lists that are one list in the argument are two in the result.
	n, _ = lawtext.Normal(alt(alt(shared...), alt(shared...)))
	change(&n.L[0])
	if !samePat(n.L[1], alt(shared...)) {
		t.Error("two lists of the result are one", n)
	}
}

func never() api.Pat { return alt() }

// P9.2, P9.3: patterns and their texts.
func TestPatternTexts(t *testing.T) {
	v := made(three)
	notFirst := but(api.Sound{Minus: 3})
	for k, x := range []struct {
		q    api.Pat
		want string
	}{
		{empty, ""}, {seq(), ""}, {begin, "^"}, {end, "$"}, {any1, "[]"}, {but(zero), "![]"}, {vowel, "[+vowel]"}, {other, "![+vowel]"},
		{sound(p), "[-voice +stop -vowel]"}, {but(a), "![+voice -stop +vowel]"}, {sound(api.Sound{Minus: 7}), "[-voice -stop -vowel]"}, {sound(api.Sound{Plus: 4, Minus: 1}), "[-voice +vowel]"},
		{seq(begin, end), "^$"}, {seq(stop, vowel), "[+stop][+vowel]"}, {seq(other, other, end), "![+vowel]![+vowel]$"},
		{never(), "!()"}, {seq(never(), never()), "!()!()"}, {rep(0, -1, never()), "!()*"}, {alt(never(), never()), "(!()|!())"},
		{alt(empty, empty), "(|)"}, {alt(empty, empty, empty), "(||)"}, {alt(empty, vowel), "(|[+vowel])"}, {alt(vowel, empty), "([+vowel]|)"}, {alt(begin, end), "(^|$)"},
		{alt(seq(stop, vowel), seq(vowel, stop)), "([+stop][+vowel]|[+vowel][+stop])"}, {alt(alt(begin, end), alt(end, begin)), "((^|$)|($|^))"}, {seq(alt(begin, end), alt(end, begin)), "(^|$)($|^)"},
		{alt(vowel), "[+vowel]"}, {alt(empty), ""}, {alt(seq(stop, vowel)), "[+stop][+vowel]"},
		{rep(0, -1, vowel), "[+vowel]*"}, {rep(1, -1, other), "![+vowel]+"}, {rep(0, 1, begin), "^?"}, {rep(2, 2, end), "${2}"}, {rep(0, 1, alt(vowel, end)), "([+vowel]|$)?"},
		{rep(0, -1, empty), "()*"}, {rep(3, 5, empty), "(){3,5}"}, {rep(0, 1, seq(stop, vowel)), "([+stop][+vowel])?"}, {rep(0, -1, rep(0, -1, vowel)), "([+vowel]*)*"},
		{rep(1, 1, rep(2, -1, rep(0, 1, empty))), "((()?){2,}){1}"}, {rep(0, 1, alt(empty, empty)), "(|)?"}, {rep(0, 1, seq(vowel)), "[+vowel]?"}, {rep(0, 1, alt(seq(stop, vowel))), "([+stop][+vowel])?"},
		{seq(rep(0, -1, vowel), rep(0, -1, vowel)), "[+vowel]*[+vowel]*"}, {seq(rep(0, -1, empty), end), "()*$"}, {alt(rep(0, -1, empty), rep(0, 1, seq(begin, end))), "(()*|(^$)?)"},
		// The chapter's examples.
		{seq(stop, rep(0, -1, vowel)), "[+stop][+vowel]*"},
		{alt(begin, seq(notFirst, end)), "(^|![-voice -stop]$)"},
		{rep(1, 3, seq(stop, vowel)), "([+stop][+vowel]){1,3}"}, {rep(0, 1, empty), "()?"},
		{seq(empty, alt(stop), seq(vowel)), "[+stop][+vowel]"},
	} {
		if s, e := lawtext.PrintPat(v, x.q); s != x.want || e != api.OK {
			t.Errorf("%d %q %v %q", k, s, e, x.want)
		}
		if q, e := lawtext.ParsePat(v, x.want); !samePat(q, modelNormal(x.q)) || e != api.OK {
			t.Error(k, q, e)
		}
		comparePrint(t, v, three, x.q)
		comparePat(t, v, three, x.want)
	}
}

// P9.2, P9.3: all numbers of repetitions, of all kinds of patterns.
func TestSigns(t *testing.T) {
	v := made(three)
	for _, q := range []api.Pat{empty, begin, end, vowel, other, seq(stop, vowel), alt(vowel, end), never(), rep(0, 1, end), rep(2, 2, empty)} {
		for least := range 33 {
			comparePrint(t, v, three, rep(least, -1, q))
			for most := least; most <= 32; most++ {
				comparePrint(t, v, three, rep(least, most, q))
			}
		}
	}
	for _, x := range []struct {
		least, most int
		want        string
	}{
		{0, -1, "*"}, {1, -1, "+"}, {0, 1, "?"}, {0, 0, "{0}"}, {1, 1, "{1}"}, {9, 9, "{9}"}, {10, 10, "{10}"}, {32, 32, "{32}"}, {2, -1, "{2,}"}, {10, -1, "{10,}"}, {32, -1, "{32,}"},
		{0, 2, "{0,2}"}, {0, 32, "{0,32}"}, {1, 2, "{1,2}"}, {1, 32, "{1,32}"}, {9, 10, "{9,10}"}, {31, 32, "{31,32}"},
	} {
		if s, e := lawtext.PrintPat(v, rep(x.least, x.most, end)); s != "$"+x.want || e != api.OK {
			t.Error(s, e, x.want)
		}
		if q, e := lawtext.ParsePat(v, "$"+x.want); !samePat(q, rep(x.least, x.most, end)) || e != api.OK {
			t.Error(q, e, x.want)
		}
	}
}

// P9.3: signs that are none, or longer than the pattern's.
func TestWrongSigns(t *testing.T) {
	v := made(three)
	for _, sign := range strings.Split("{0,} {1,} {0,1} {0,0} {1,1} {2,2} {32,32} {00} {01} {02} {2,03} {02,3} {00,} {2,1} {32,31} {33} {33,} {0,33} {32,33} {100} {2,100} {-1} {0,-1} {2,-1} {+2} {2,+3} {} {,} {,2} { {2 2} {2,} } {2,,} {2,,3} {2,3,} {2,3,4} {{2}} {a} {2a} {2.} {2;3} {1_0} {0x2} ** ++ ?? *? +? *+ {2}{2} *{2} {2}* {2,}+ *** {18446744073709551618} {18446744073709551616,18446744073709551617} {9223372036854775808} {4294967298} {99999999999999999999} {2} {²} (2) [2]", " ") {
		for _, text := range []string{"$", "[+vowel]", "()", "(^$)", "(^|$)", "!()", "(^?)"} {
			if sign != "{2}" && sign != "{2,}" {
				checkNoPat(t, v, text+sign, api.ErrForm)
			}
			comparePat(t, v, three, text+sign)
		}
		checkNoPat(t, v, sign, api.ErrForm)
	}
	for _, sign := range []string{"{ 2}", "{2 }", "{2, 3}", "{2 ,3}", " {2}", "{2} ", "{2,3 }", " *", "* ", "{\n2}", "{2\x00}", "{٢}"} {
		checkNoPat(t, v, "$"+sign, api.ErrForm)
	}
}

// P9.3: texts that are none of patterns.
func TestWrongPatterns(t *testing.T) {
	v := made(three)
	for _, text := range []string{
		// The chapter's examples.
		"[+vowel -stop]", "([+stop])", "[+stop]{1,}", "[+tone]",
		// Brackets.
		"[", "]", "[+stop", "+stop]", "[[+stop]]", "[+stop]]", "[[+stop]", "(", ")", "()", "(^", "^)", "((^|$)", "(^|$))", "((^|$))", "((^|$))*", "(^)", "(^)*", "([])", "([])?", "(!())", "(!())*", "(![])", "((^$))*", "(^$)", "(^*)", "((^*))*", "([+stop][+vowel])", "({2})", "{", "}", "{2}", "^{", "^{2", "^2}", "^[}", "[)", "(]",
		// Alternatives.
		"|", "^|$", "^|", "|$", "(^|$", "^|$)", "(|", "|)", "(^||$", "!(|)", "!(^)", "!(^|$)", "!()()", "! ()", "!( )",
		// Negations.
		"!", "!!", "!!()", "!![]", "!^", "!$", "[!+stop]", "[]!", "!*", "(!|^)", "![", "!+stop", "! []",
		// Sounds.
		"[ ]", "[+]", "[-]", "[+ stop]", "[+stop ]", "[ +stop]", "[+stop  +vowel]", "[+stop+vowel]", "[+stop,+vowel]", "[+stop +stop]", "[+stop -stop]", "[-stop +stop]", "[-stop +voice]", "[+vowel +stop +voice]", "[stop]", "[~stop]", "[1:stop]", "[+Stop]", "[+sto]", "[+stopp]", "[*stop]", "[+stop\n]", "[+stop\x00]", "[+stop\t+vowel]", "[++stop]", "[+-stop]", "[+\xff]", "[+é]",
		// Signs, and nothing before them.
		"*", "+", "?", "{2,}", "^**", "(*)", "(|*)", "(*|)", "(^|$)**", "[*]", "[]**",
		// Other bytes.
		" ", "^ $", " ^", "^ ", "\n", "^\n", "\x00", "^\x00", "\xff", "é", "^é", "a", "0", "_", "^_$", ".", "/", "\\", "\"\"", "^^^a", "[]\xc3",
	} {
		checkNoPat(t, v, text, api.ErrForm)
		if comparePat(t, v, three, text) {
			t.Errorf("the model reads %q", text)
		}
	}
}

// texts yields all texts of up to some number of tokens.
func texts(most int, tokens []string, yield func(string)) {
	var more func(text string, left int)
	more = func(text string, left int) {
		yield(text)
		for _, token := range tokens {
			if left > 0 {
				more(text+token, left-1)
			}
		}
	}
	more("", most)
}

// P9.3: all texts of a few tokens.
func TestAllTexts(t *testing.T) {
	t.Parallel()
	feats := []string{"a"}
	v := made(feats)
	for _, x := range []struct {
		most   int
		tokens string
		least  int
	}{
		{4, "[ ] +a -a ! ( ) | * + ? { } , 0 1 2 ^ $ _ a", 250},
		{6, "[+a] ! ( ) | * ^", 1500},
		{5, "() ( ) | ? {2} !() $", 700},
		{6, "^{ } , 0 1 3", 40},
		{5, "[ ] +a -a ! ^", 45},
	} {
		tokens := append(strings.Fields(x.tokens), " ")
		good := 0
		texts(x.most, tokens, func(s string) {
			if comparePat(t, v, feats, s) {
				good++
			}
		})
		if good < x.least {
			t.Error("too few texts are ones of patterns", x.tokens, good)
		}
	}
}

// P9.2, P9.3, P9.8: all small patterns. Different normal patterns have different texts, others that of their normal form.
func TestSmallPatterns(t *testing.T) {
	t.Parallel()
	v := made(three)
	found := map[string]api.Pat{}
	for _, q := range allSmall(5) {
		comparePrint(t, v, three, q)
		s, _ := lawtext.PrintPat(v, q)
		if n, ok := found[s]; ok && !samePat(n, modelNormal(q)) {
			t.Fatal("two normal patterns have one text", n, q, s)
		}
		found[s] = modelNormal(q)
		if n, ok := readPat(three, s); !ok || !samePat(n, found[s]) {
			t.Fatal("the model reads", s, n, ok)
		}
	}
}

// P9.2, P9.3, P9.8: random patterns of up to 40 nodes, and texts that are nearly theirs.
func TestRandomPatterns(t *testing.T) {
	t.Parallel()
	r := rand.New(rand.NewSource(2))
	for _, feats := range [][]string{three, alike, {"x"}, nil} {
		v := made(feats)
		good := 0
		for k := range 6000 {
			q := randomPat(r, len(feats), 1+k%40)
			comparePrint(t, v, feats, q)
			text := modelPat(feats, modelNormal(q))
			for range 3 {
				if comparePat(t, v, feats, edited(r, feats, text)) {
					good++
				}
			}
		}
		if good < 500 || good > 17500 {
			t.Error("the texts are of one kind", feats, good)
		}
	}
}

// P9.3: one byte more, less or another one.
func TestPatternNeighbours(t *testing.T) {
	t.Parallel()
	for _, x := range []struct {
		feats []string
		texts []string
	}{
		{three, []string{"[+stop][+vowel]*", "(^|![-voice -stop]$)", "([+stop][+vowel]){1,3}", "()?", "!()", "((()?){2,})+", "(|(^|)|)*", "![-voice +stop -vowel]{10,32}", "^(($|[])*$)+!(){2}"}},
		{alike, []string{"[+a +aa -b]", "[-aa +a0 -a00]*", "![+a -c]"}},
		{nil, []string{"", "[]", "![]*^"}},
	} {
		v := made(x.feats)
		for _, text := range x.texts {
			if !comparePat(t, v, x.feats, text) {
				t.Errorf("%q is none", text)
			}
			for _, s := range neighbours(text) {
				comparePat(t, v, x.feats, s)
			}
		}
	}
}

// P9.2, P9.3: 40 nodes, and 41.
func TestManyNodes(t *testing.T) {
	v := made(three)
	for k, x := range []struct {
		before, each, between, after string
		outer, nodes                 int // the nodes of the outer pattern, and of each element
	}{
		{"", "^", "", "", 1, 1}, {"", "[+stop]", "", "", 1, 1}, {"", "!()", "", "", 1, 1}, {"", "^*", "", "", 1, 2}, {"", "(^|$)", "", "", 1, 3}, {"", "()?", "", "", 1, 2},
		{"(", "^", "|", ")", 1, 1}, {"(", "", "|", ")", 1, 1}, {"(", "^", "|", ")*", 2, 1}, {"(", "^$", "|", ")", 1, 3}, {"(", "^", "", ")*", 2, 1}, {"((", "^", "", ")*)*", 3, 1}, {"$(", "^", "", ")*", 4, 1},
	} {
		for n := 2; n < 60; n++ {
			text := x.before + strings.Repeat(x.between+x.each, n)[len(x.between):] + x.after
			if fits := x.outer+n*x.nodes <= 40; comparePat(t, v, three, text) != fits {
				t.Error(k, n, text, fits)
			}
		}
	}
	for n := 1; n < 60; n++ {
		deepest := strings.Repeat("(", n) + "^*" + strings.Repeat(")*", n)
		if fits := n+2 <= 40; comparePat(t, v, three, deepest) != fits {
			t.Error(n, deepest)
		}
		alternatives := strings.Repeat("(", n) + "|" + strings.Repeat(")|", n)
		comparePat(t, v, three, alternatives[:len(alternatives)-1])
	}
	for _, q := range []api.Pat{seq(times(39, vowel)...), alt(times(39, empty)...), deep(40, empty, rep(0, -1)), deep(40, vowel, seq()), deep(40, end, alt(), seq()), seq(times(39, never())...)} {
		comparePrint(t, v, three, q)
	}
	// Brackets that are left out of the normal form are no nodes of it, but such a text is none.
	checkNoPat(t, v, strings.Repeat("(", 40)+"^"+strings.Repeat(")", 40), api.ErrForm)
	checkNoPat(t, v, strings.Repeat("(", 41)+strings.Repeat(")", 41), api.ErrForm)
}

// P9.2: features that the inventory does not have, in each part of a pattern.
func TestPatternFeatures(t *testing.T) {
	for n := range 25 {
		v := made(manyFeats()[:n])
		for f := range 24 {
			for _, s := range []api.Sound{{Plus: 1 << f}, {Minus: 1 << f}} {
				for _, q := range []api.Pat{sound(s), but(s), seq(begin, sound(s)), alt(end, seq(rep(0, 0, but(s)), end)), alt(sound(s)), seq(sound(zero), sound(s), sound(zero))} {
					if f < n {
						comparePrint(t, v, manyFeats()[:n], q)
					} else {
						checkNoText(t, v, q, api.ErrSound)
					}
				}
			}
		}
		for _, q := range []api.Pat{empty, any1, but(zero), seq(begin, end)} {
			comparePrint(t, v, manyFeats()[:n], q)
		}
	}
	v := made(three)
	// What is wrong with the pattern comes first.
	far := sound(api.Sound{Plus: 8})
	checkNoText(t, v, seq(far, rep(2, 1, end)), api.ErrArg)
	checkNoText(t, v, alt(times(40, far)...), api.ErrMany)
	checkNoText(t, v, alt(times(39, far)...), api.ErrSound)
	checkNoText(t, v, sound(api.Sound{Plus: 7, Minus: 8}), api.ErrSound)
	for _, s := range []string{"[+voic]", "[+voice +stop +tone]", "[+tone +voice]", "(^|[-x])", "[+f0]"} {
		checkNoPat(t, v, s, api.ErrForm)
	}
	for _, s := range []string{"[+stop]", "[-voice]*", "([]|![+vowel])"} {
		checkNoPat(t, made(nil), s, api.ErrForm)
	}
	// Sounds and symbols of the inventory do not matter.
	if e := v.Add("p", p); e != api.OK {
		t.Fatal(e)
	}
	checkNoPat(t, v, "p", api.ErrForm)
	comparePrint(t, v, three, sound(p))
}

// P9.3: how long a text may be. Reading does not go as deep as the text is long.
func TestPatternLength(t *testing.T) {
	defer debug.SetMaxStack(debug.SetMaxStack(1 << 20))
	v := made(manyFeats())
	for _, c := range strings.Fields("( ) [ ] ^ $ ! !() | * + ? { } {2} [] ![] (| () ()* (^ (^* [+") {
		for _, begin := range []string{"", "^", "(", "[", "(|", "![]", "^{"} {
			text := begin + strings.Repeat(c, 65537)
			checkNoPat(t, v, text[:65535], api.ErrForm)
			checkNoPat(t, v, text[:65536], api.ErrForm)
			checkNoPat(t, v, text[:65537], api.ErrLong)
		}
	}
	deepest := strings.Repeat("(", 16384) + "^*" + strings.Repeat(")*", 16384)
	checkNoPat(t, v, deepest, api.ErrForm)
	checkNoPat(t, v, strings.Repeat(deepest, 2), api.ErrLong)
	checkNoPat(t, v, "["+strings.Repeat("+f000000000000000 ", 3640)+"]", api.ErrForm)
	checkNoPat(t, v, "^{"+strings.Repeat("0", 65000)+"2}", api.ErrForm)
	checkNoPat(t, v, "^{"+strings.Repeat("9", 65000)+"}", api.ErrForm)
	checkNoPat(t, v, strings.Repeat("\n", 65537), api.ErrLong)
	// The longest text of a pattern.
	q := seq(times(39, but(api.Sound{Plus: 1<<12 - 1, Minus: 1<<24 - 1<<12}))...)
	comparePrint(t, v, manyFeats(), q)
	if s, _ := lawtext.PrintPat(v, q); len(s) != 39*(3+24*17+23) {
		t.Error(len(s))
	}
	for _, v := range badInvs() {
		for _, text := range []string{"", "^", "(", "[+voice]", strings.Repeat("^", 65536), strings.Repeat("^", 65537)} {
			checkNoPat(t, v, text, api.ErrNil)
		}
	}
}

// P9.2, P9.3, R4
func TestPatternMemory(t *testing.T) {
	v := made(three)
	q := alt(seq(vowel, seq(stop, end)), rep(0, 1, seq(begin, empty)))
	before := duplicate(q)
	s, _ := lawtext.PrintPat(v, q)
	if !samePat(q, before) {
		t.Error("the argument is changed", q)
	}
	x, _ := lawtext.ParsePat(v, s)
	y, _ := lawtext.ParsePat(v, s)
	change(&x)
	if !samePat(y, modelNormal(q)) {
		t.Error("two results are one", y)
	}
	if z, e := lawtext.ParsePat(v, s); e != api.OK || !samePat(z, y) {
		t.Error("a result is kept", z, e)
	}
	x, _ = lawtext.ParsePat(v, "(^$|^$)")
	change(&x.L[0])
	if !samePat(x.L[1], seq(begin, end)) {
		t.Error("two lists of the result are one", x)
	}
	if v.Len() != 0 || len(v.Feats()) != 3 {
		t.Error("the inventory is changed")
	}
}

// P9.9: the normal form matches the same parts of words.
func TestNormalMatches(t *testing.T) {
	t.Parallel()
	var words []api.Word
	texts(3, []string{"p", "a"}, func(s string) {
		var w api.Word
		for _, c := range s {
			w = append(w, map[rune]api.Sound{'p': p, 'a': a}[c])
		}
		words = append(words, w)
	})
	compare := func(q api.Pat, w api.Word) {
		n, _ := lawtext.Normal(q)
		for place := range len(w) + 1 {
			x, _ := pats.Ends(q, w, place)
			if y, e := pats.Ends(n, w, place); !slices.Equal(x, y) || e != api.OK {
				t.Fatal(q, n, w, place, x, y, e)
			}
		}
	}
	for _, q := range allSmall(3) {
		for _, w := range words {
			compare(q, w)
		}
	}
	r := rand.New(rand.NewSource(3))
	for k := range 2000 {
		q := randomPat(r, 3, 1+k%25)
		for range 3 {
			compare(q, words[r.Intn(len(words))])
			compare(q, api.Word{p, a, b, a, a, p, zero}[:r.Intn(8)])
		}
	}
}
