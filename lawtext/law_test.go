package lawtext_test

import (
	"math/rand"
	"runtime/debug"
	"slices"
	"strings"
	"testing"
	"unsafe"

	"ablaut/api"
	"ablaut/inventory"
	"ablaut/law"
	"ablaut/lawtext"
)

// normalLaw returns a law with its patterns in normal form.
func normalLaw(l api.Law) api.Law {
	l.Left, l.Right = modelNormal(l.Left), modelNormal(l.Right)
	return l
}

// compareLaw compares Print with the model, and what is read from the text with the law.
func compareLaw(t *testing.T, v *inventory.Inv, feats []string, l api.Law) {
	t.Helper()
	want := modelLaw(feats, l)
	s, e := lawtext.Print(v, l)
	if s != want || e != api.OK {
		t.Fatalf("Print %v %q %v %q", l, s, e, want)
	}
	if x, e := lawtext.Parse(v, s); !sameLaw(x, normalLaw(l)) || e != api.OK {
		t.Fatalf("Parse %q %v %v %v", s, x, e, l)
	}
}

// compareText compares Parse with the model, and reports whether the text is one of a law.
func compareText(t *testing.T, v *inventory.Inv, feats []string, s string) bool {
	t.Helper()
	want, ok := readLaw(feats, s)
	if !ok {
		checkNoLaw(t, v, s, api.ErrForm)
		return false
	}
	x, e := lawtext.Parse(v, s)
	if e != api.OK || !sameLaw(x, want) {
		t.Fatalf("Parse %q %v %v %v", s, x, e, want)
	}
	if text, e := lawtext.Print(v, x); text != s || e != api.OK || !isNormal(x.Left) || !isNormal(x.Right) {
		t.Fatalf("Print of Parse %q %v %q %v", s, x, text, e)
	}
	return true
}

// checkNoLaw checks the error for a text, and the zero value beside it.
func checkNoLaw(t *testing.T, v *inventory.Inv, s string, want api.Errno) {
	t.Helper()
	if x, e := lawtext.Parse(v, s); e != want || !noLaw(x) {
		t.Errorf("Parse %.100q %d %v %v %v", s, len(s), x, e, want)
	}
}

// checkNotWritten checks the error of Print, and of PrintAll for a list with the law.
func checkNotWritten(t *testing.T, v *inventory.Inv, l api.Law, want api.Errno) {
	t.Helper()
	if s, e := lawtext.Print(v, l); s != "" || e != want {
		t.Errorf("Print %.200q %v %v", s, e, want)
	}
	good, _ := examples()
	for _, all := range [][]api.Law{{l}, {good[3], l, good[3]}} {
		if s, e := lawtext.PrintAll(v, all); s != "" || e != want {
			t.Errorf("PrintAll %.200q %v %v", s, e, want)
		}
	}
}

// badLaws are laws that are not valid.
func badLaws() []api.Law {
	good, _ := examples()
	l := []api.Law{{}, {Name: "x", Mode: api.ModeAll}, {Name: "x", Left: vowel, Right: stop, Mode: api.ModeLeft}}
	add := func(set func(*api.Law)) {
		for _, x := range good {
			x = duplicateLaw(x)
			set(&x)
			l = append(l, x)
		}
	}
	for _, name := range []string{"", "x y", "x_", "x:", "x.y", "ä", "x\n", " x", strings.Repeat("x", 25)} {
		add(func(x *api.Law) { x.Name = name })
	}
	bad, _ := badPats()
	for _, q := range bad {
		add(func(x *api.Law) { x.Left = q })
		add(func(x *api.Law) { x.Right = q })
	}
	for _, s := range invalid() {
		add(func(x *api.Law) { x.If = append(x.If, s) })
		add(func(x *api.Law) { x.Out = append(x.Out, api.Out{From: -1, Set: s}) })
	}
	for _, o := range outs(api.Out{From: 4}, api.Out{From: -2}, api.Out{From: -1, Of: 1}, api.Out{From: -1, Take: 1, Of: -1}, api.Out{From: -1, Take: 1, Of: 4}, api.Out{From: -1, Clear: 1, Set: voiced}, api.Out{From: -1, Clear: 1 << 24}) {
		add(func(x *api.Law) { x.Out = append(x.Out, o) })
	}
	add(func(x *api.Law) { x.If = make([]api.Sound, 5) })
	add(func(x *api.Law) { x.Out = slices.Repeat(outs(api.Out{From: -1}), 7) })
	for _, mode := range []int{0, 4, -1, 1 << 32, 1<<32 + 1, -1 << 63} {
		add(func(x *api.Law) { x.Mode = mode })
	}
	return l
}

// P9.4, P9.5: laws and their texts.
func TestLawTexts(t *testing.T) {
	v := made(three)
	laws, all := examples()
	for _, x := range []struct {
		l    api.Law
		want string
	}{
		// Without conditions, results, patterns; with one, and with as many as there can be.
		{api.Law{Name: "x", Out: outs(api.Out{From: -1}), Mode: api.ModeAll}, "x: 0 > {0} / _"},
		{api.Law{Name: "x", If: list(zero), Mode: api.ModeAll}, "x: [] > 0 / _"},
		{api.Law{Name: "x", If: list(zero), Out: outs(api.Out{}), Mode: api.ModeRight}, "x: [] >> {1} / _"},
		{api.Law{Name: "x", If: list(zero, p, zero, voiced), Mode: api.ModeLeft}, "x: [][-voice +stop -vowel][][+voice] << 0 / _"},
		{api.Law{Name: "x", If: list(zero, zero, zero, zero), Out: outs(api.Out{From: 3}, api.Out{From: 2}, api.Out{From: 1}, api.Out{}, api.Out{From: -1}, api.Out{From: 3}), Mode: api.ModeAll}, "x: [][][][] > {4}{3}{2}{1}{0}{4} / _"},
		// Names.
		{api.Law{Name: "0", Out: outs(api.Out{From: -1}), Mode: api.ModeAll}, "0: 0 > {0} / _"},
		{api.Law{Name: "-", Out: outs(api.Out{From: -1}), Mode: api.ModeAll}, "-: 0 > {0} / _"},
		{api.Law{Name: "aZ-09", Out: outs(api.Out{From: -1}), Mode: api.ModeRight}, "aZ-09: 0 >> {0} / _"},
		{api.Law{Name: strings.Repeat("x", 24), Out: outs(api.Out{From: -1}), Mode: api.ModeLeft}, strings.Repeat("x", 24) + ": 0 << {0} / _"},
		// Items.
		{api.Law{Name: "x", If: list(zero), Out: outs(api.Out{Clear: 7}), Mode: api.ModeAll}, "x: [] > {1 ~voice ~stop ~vowel} / _"},
		{api.Law{Name: "x", If: list(zero), Out: outs(api.Out{Set: b}), Mode: api.ModeAll}, "x: [] > {1 +voice +stop -vowel} / _"},
		{api.Law{Name: "x", If: list(zero), Out: outs(api.Out{Take: 7}), Mode: api.ModeAll}, "x: [] > {1 1:voice 1:stop 1:vowel} / _"},
		{api.Law{Name: "x", If: list(zero, zero, zero, zero), Out: outs(api.Out{From: -1, Take: 5, Of: 3}), Mode: api.ModeAll}, "x: [][][][] > {0 4:voice 4:vowel} / _"},
		{api.Law{Name: "x", If: list(zero, zero), Out: outs(api.Out{From: 1, Clear: 4, Set: api.Sound{Minus: 2}, Take: 1, Of: 1}), Mode: api.ModeAll}, "x: [][] > {2 ~vowel -stop 2:voice} / _"},
		{api.Law{Name: "x", If: list(zero), Out: outs(api.Out{From: 0, Clear: 1, Set: api.Sound{Plus: 2}, Take: 4}, api.Out{From: -1, Clear: 2, Take: 5}, api.Out{From: -1, Set: api.Sound{Minus: 5}}), Mode: api.ModeAll}, "x: [] > {1 ~voice +stop 1:vowel}{0 ~stop 1:voice 1:vowel}{0 -voice -vowel} / _"},
		// Patterns.
		{api.Law{Name: "x", Left: seq(begin, rep(0, -1, other)), Right: alt(end, seq(stop, empty, vowel)), If: list(isVowel), Mode: api.ModeAll}, "x: [+vowel] > 0 / ^![+vowel]*_($|[+stop][+vowel])"},
		{api.Law{Name: "x", Left: seq(), Right: alt(seq(vowel)), If: list(isVowel), Mode: api.ModeAll}, "x: [+vowel] > 0 / _[+vowel]"},
		{api.Law{Name: "x", Left: never(), Right: rep(0, 1, empty), If: list(isVowel), Mode: api.ModeAll}, "x: [+vowel] > 0 / !()_()?"},
		{laws[0], all[0]}, {laws[1], all[1]}, {laws[2], all[2]}, {laws[3], all[3]}, {laws[4], all[4]},
	} {
		if s, e := lawtext.Print(v, x.l); s != x.want || e != api.OK {
			t.Errorf("%q %v %q", s, e, x.want)
		}
		if l, e := lawtext.Parse(v, x.want); !sameLaw(l, normalLaw(x.l)) || e != api.OK {
			t.Error(l, e, x.want)
		}
		compareLaw(t, v, three, x.l)
		if !compareText(t, v, three, x.want) {
			t.Error("the model does not read", x.want)
		}
	}
}

// P9.5: texts that are none of laws.
func TestWrongLaws(t *testing.T) {
	v := made(three)
	for _, text := range []string{
		// The chapter's examples.
		"x: [+stop] > {2} / _", "x: 0 > 0 / _",
		// Names.
		": [] > 0 / _", " : [] > 0 / _", "x y: [] > 0 / _", "x_y: [] > 0 / _", "é: [] > 0 / _", "x.: [] > 0 / _", "x:: [] > 0 / _", "x: : [] > 0 / _", " x: [] > 0 / _", "x : [] > 0 / _", strings.Repeat("x", 25) + ": [] > 0 / _", "[] > 0 / _", "x [] > 0 / _", "x:[] > 0 / _", "\xffx: [] > 0 / _", "x\x00: [] > 0 / _",
		// Conditions.
		"x:  > {0} / _", "x: > {0} / _", "x: 0[] > {0} / _", "x: []0 > {0} / _", "x: 00 > {0} / _", "x: 1 > {0} / _", "x: [ ] > 0 / _", "x: [][+vowel -stop] > 0 / _", "x: [+tone] > 0 / _", "x: [+stop -stop] > 0 / _", "x: ![] > 0 / _", "x: [] [] > 0 / _", "x: []* > 0 / _", "x: ([]) > 0 / _", "x: [][][][][] > 0 / _", "x: [ > 0 / _", "x: ] > 0 / _", "x: [[] > 0 / _", "x: []] > 0 / _", "x: ^ > 0 / _", "x: {1} > 0 / _", "x: [~stop] > 0 / _", "x: [1:stop] > 0 / _",
		// Arrows.
		"x: [] 0 / _", "x: []  0 / _", "x: []> 0 / _", "x: [] >0 / _", "x: []>0 / _", "x: []  > 0 / _", "x: [] >  0 / _", "x: [] < 0 / _", "x: [] >>> 0 / _", "x: [] <<< 0 / _", "x: [] <> 0 / _", "x: [] > > 0 / _", "x: [] -> 0 / _", "x: [] = 0 / _", "x: [] » 0 / _", "x: []0 / _", "x: [] ", "x: []",
		// Results.
		"x: [] >  / _", "x: [] > / _", "x: [] > 00 / _", "x: [] > 0{1} / _", "x: [] > {1}0 / _", "x: [] > 1 / _", "x: [] > {} / _", "x: [] > { } / _", "x: [] > {-1} / _", "x: [] > {+1} / _", "x: [] > {01} / _", "x: [] > {00} / _", "x: [] > {5} / _", "x: [] > {1 } / _", "x: [] > { 1} / _", "x: [] > {1}{2} / _", "x: [] > {1} {1} / _", "x: [] > {1 / _", "x: [] > 1} / _", "x: [] > {{1}} / _", "x: [] > {1}} / _", "x: [] > [1] / _", "x: [] > {1}{1}{1}{1}{1}{1}{1} / _", "x: 0 > {1} / _", "x: [] > {18446744073709551617} / _", "x: [] > {4294967297} / _", "x: [] > {-9223372036854775808} / _", "x: [] > {9223372036854775808} / _", "x: [] > [] / _", "x: [] > {x} / _", "x: [] > {+voice} / _",
		// Items.
		"x: [] > {1 voice} / _", "x: [] > {1+voice} / _", "x: [] > {1  +voice} / _", "x: [] > {1 +voice } / _", "x: [] > {1 ~} / _", "x: [] > {1 +} / _", "x: [] > {1 1:} / _", "x: [] > {1 :voice} / _", "x: [] > {1 0:voice} / _", "x: [] > {1 -1:voice} / _", "x: [] > {1 +1:voice} / _", "x: [] > {1 01:voice} / _", "x: [] > {1 2:voice} / _", "x: 0 > {0 1:voice} / _", "x: [] > {1 1 voice} / _", "x: [] > {1 1::voice} / _", "x: [] > {1 1:1:voice} / _", "x: [] > {1 ~+voice} / _", "x: [] > {1 +~voice} / _", "x: [] > {1 ~~voice} / _", "x: [] > {1 1:+voice} / _", "x: [] > {1 1:~voice} / _", "x: [] > {1 ~1:voice} / _", "x: [] > {1 +1:voice} / _", "x: [] > {1 ~tone} / _", "x: [] > {1 +tone} / _", "x: [] > {1 1:tone} / _", "x: [] > {1 x:voice} / _", "x: [] > {1 18446744073709551617:voice} / _",
		"x: [] > {1 ~voice ~voice} / _", "x: [] > {1 +voice +voice} / _", "x: [] > {1 1:voice 1:voice} / _", "x: [] > {1 ~voice +voice} / _", "x: [] > {1 ~voice 1:voice} / _", "x: [] > {1 +voice 1:voice} / _", "x: [] > {1 +voice -voice} / _", "x: [] > {1 ~stop ~voice} / _", "x: [] > {1 +stop +voice} / _", "x: [] > {1 1:stop 1:voice} / _", "x: [][] > {1 1:voice 2:stop} / _", "x: [][] > {1 2:voice 1:stop} / _", "x: [] > {1 +stop ~voice} / _", "x: [] > {1 1:stop ~voice} / _", "x: [] > {1 1:stop +voice} / _", "x: [] > {+voice 1} / _", "x: [] > {~voice 1} / _", "x: [] > {1 +voice,+stop} / _", "x: [] > {1\t+voice} / _",
		// What stands before and behind the line.
		"x: [] > 0", "x: [] > 0 /", "x: [] > 0 / ", "x: [] > 0_", "x: [] > 0 _", "x: [] > 0 /_", "x: [] > 0/ _", "x: [] > 0  / _", "x: [] > 0 /  _", "x: [] > 0 / _ ", "x: [] > 0 / _\n", "x: [] > 0 / _\r", "\nx: [] > 0 / _", "x: [] > 0 / __", "x: [] > 0 / _ / _", "x: [] > 0 / _^_", "x: [] > 0 / ^ _", "x: [] > 0 / _ $", "x: [] > 0 / ^|$_", "x: [] > 0 / _^|$", "x: [] > 0 / (^)_", "x: [] > 0 / _(^)", "x: [] > 0 / (_)", "x: [] > 0 / (^|_$)", "x: [] > 0 / _{2}", "x: [] > 0 / *_", "x: [] > 0 / [_]", "x: [] > 0 / [+vowel -stop]_", "x: [] > 0 / _[+vowel -stop]", "x: [] > 0 / _[+tone]", "x: [] > 0 / [+tone]_", "x: [] > 0 / _[]{1,}", "x: [] > 0 / !_", "x: [] > 0 / _!",
		// Other texts.
		"", " ", "x", "x:", "x: ", "0", "_", "^", "\n", "\x00", "\xff", ": 0 > 0 / _", "x: 0 >> 0 / _", "x: 0 << 0 / ^_$", "voicing: [+stop] > {1 +voice} / [+vowel]_[+vowel]\nvoicing: [+stop] > {1 +voice} / [+vowel]_[+vowel]",
	} {
		checkNoLaw(t, v, text, api.ErrForm)
		if compareText(t, v, three, text) {
			t.Errorf("the model reads %q", text)
		}
	}
}

// P9.4, P9.5: names of all bytes.
func TestNames(t *testing.T) {
	v := made(three)
	for c := range 256 {
		for _, name := range []string{string([]byte{byte(c)}), string([]byte{'x', byte(c)}), string([]byte{byte(c), 'x'})} {
			compareText(t, v, three, name+": [] > 0 / _")
			l := api.Law{Name: name, If: list(zero), Mode: api.ModeAll}
			if law.Check(l) == api.OK {
				compareLaw(t, v, three, l)
			} else {
				checkNotWritten(t, v, l, api.ErrLaw)
			}
		}
	}
	for n := range 30 {
		if compareText(t, v, three, strings.Repeat("x", n)+": [] > 0 / _") != (n >= 1 && n <= 24) {
			t.Error(n)
		}
	}
}

// P9.5: the items of a result in all orders.
func TestOrderOfItems(t *testing.T) {
	v := made(alike)
	items := []string{"~a", "~aa", "+b", "-a0", "2:a00", "2:c"}
	found := 0
	var permute func(done, rest []string)
	permute = func(done, rest []string) {
		text := "x: [][] > {2 " + strings.Join(done, " ") + "}{0} / ^_"
		if len(done) > 0 && compareText(t, v, alike, text) {
			found++
		}
		for i, item := range rest {
			permute(append(slices.Clone(done), item), append(slices.Clone(rest[:i]), rest[i+1:]...))
		}
	}
	permute(nil, items)
	// One order for each choice of some items.
	if found != 63 {
		t.Error(found)
	}
	want := api.Law{Name: "x", Left: begin, If: list(zero, zero), Out: outs(api.Out{From: 1, Clear: 3, Set: api.Sound{Plus: 4, Minus: 8}, Take: 48, Of: 1}, api.Out{From: -1}), Mode: api.ModeAll}
	if l, e := lawtext.Parse(v, "x: [][] > {2 "+strings.Join(items, " ")+"}{0} / ^_"); e != api.OK || !sameLaw(l, want) {
		t.Error(l, e)
	}
}

// P9.5: each part of a law with each other one, those that are wrong too.
func TestPartsOfLaws(t *testing.T) {
	t.Parallel()
	v := made(three)
	good := 0
	for _, name := range []string{"x: ", "", "x:", "-7: ", "x : "} {
		for _, conditions := range []string{"0", "[]", "[+stop][-voice +vowel]", "", "[+vowel +stop]", "[][][][]", "[][][][][]", "0[]", "[+stop"} {
			for _, arrow := range []string{" > ", " >> ", " << ", " < ", ">", " "} {
				for _, results := range []string{"0", "{0}", "{1}", "{2 ~stop}{1 +voice 2:stop}", "{0 -stop +vowel}", "", "{3}", "{0}{0}{0}{0}{0}{0}", "{0}{0}{0}{0}{0}{0}{0}", "{1 +vowel -stop}", "{4 4:voice}"} {
					for _, rest := range []string{" / _", " / ^![+stop]*_([]$|)", "/ _", " / ", " / _(^)", " / (^)_", " / ^__", " / _^ ", " / ()?_()?"} {
						if compareText(t, v, three, name+conditions+arrow+results+rest) {
							good++
						}
					}
				}
			}
		}
	}
	if good < 100 {
		t.Error("too few texts are ones of laws", good)
	}
}

// P9.4, P9.5, P9.8: random laws, and texts that are nearly theirs.
func TestRandomLaws(t *testing.T) {
	t.Parallel()
	r := rand.New(rand.NewSource(4))
	for _, feats := range [][]string{three, alike, {"x"}, nil} {
		v := made(feats)
		good := 0
		for k := range 6000 {
			l := randomLaw(r, len(feats), 1+k%40)
			compareLaw(t, v, feats, l)
			text := modelLaw(feats, l)
			for range 3 {
				if compareText(t, v, feats, edited(r, feats, text)) {
					good++
				}
			}
		}
		if good < 500 || good > 17500 {
			t.Error("the texts are of one kind", feats, good)
		}
	}
}

// P9.5: one byte more, less or another one.
func TestLawNeighbours(t *testing.T) {
	t.Parallel()
	_, all := examples()
	v := made(three)
	for _, text := range append(all, "Grimm-1: [+stop][] >> {2 ~vowel +stop 1:voice}{0}{1} / (^|[])*_![-voice]{2,3}$") {
		if !compareText(t, v, three, text) {
			t.Errorf("%q is none", text)
		}
		for _, s := range neighbours(text) {
			compareText(t, v, three, s)
		}
	}
	v = made(alike)
	for _, s := range neighbours("x: [+a -aa] << {1 ~a ~aa +b -a0 1:a00 1:c} / [+a]_") {
		compareText(t, v, alike, s)
	}
}

// P9.4: the errors in their order.
func TestLawErrors(t *testing.T) {
	v := made(three)
	for _, l := range badLaws() {
		if e := law.Check(l); e != api.ErrLaw {
			t.Error("the example is wrong", l, e)
		}
		checkNotWritten(t, v, l, api.ErrLaw)
		for _, v := range badInvs() {
			checkNotWritten(t, v, l, api.ErrNil)
		}
	}
	good, _ := examples()
	for _, v := range badInvs() {
		checkNotWritten(t, v, good[0], api.ErrNil)
		checkNotWritten(t, v, api.Law{Name: "x", If: list(api.Sound{Plus: 8}), Mode: api.ModeAll}, api.ErrNil)
	}
	// A law that is not valid, with a feature that the inventory does not have.
	checkNotWritten(t, v, api.Law{Name: "x", If: list(api.Sound{Plus: 8})}, api.ErrLaw)
	checkNotWritten(t, v, api.Law{Name: "x", If: list(api.Sound{Plus: 8}), Mode: api.ModeAll}, api.ErrSound)
}

// P9.4: features that the inventory does not have, in each part of a law.
func TestLawFeatures(t *testing.T) {
	for _, n := range []int{0, 1, 2, 3, 12, 23, 24} {
		feats := manyFeats()[:n]
		v := made(feats)
		for f := range 24 {
			bit := uint32(1) << f
			for _, s := range []api.Sound{{Plus: bit}, {Minus: bit}} {
				for _, l := range []api.Law{
					{Left: sound(s)}, {Left: seq(begin, rep(0, 1, but(s)))}, {Right: but(s)}, {Right: alt(end, seq(any1, sound(s)))}, {If: list(zero, s)}, {If: list(s, zero, zero)},
					{Out: outs(api.Out{From: -1, Set: s})}, {Out: outs(api.Out{From: -1}, api.Out{From: -1, Set: s})}, {Out: outs(api.Out{From: -1, Clear: bit})}, {Out: outs(api.Out{From: -1}, api.Out{From: -1, Clear: bit}, api.Out{From: -1})}, {If: list(zero), Out: outs(api.Out{Take: bit})},
				} {
					l.Name, l.Mode = "x", api.ModeAll
					if len(l.If)+len(l.Out) == 0 {
						l.If = list(zero)
					}
					if f < n {
						compareLaw(t, v, feats, l)
					} else {
						checkNotWritten(t, v, l, api.ErrSound)
					}
				}
			}
		}
	}
}

// longLaw is a valid law with a text as long as it can be.
func longLaw() api.Law {
	const all = 1<<24 - 1
	q := seq(times(39, but(api.Sound{Minus: all}))...)
	return api.Law{
		Name: strings.Repeat("x", 24), Left: q, Right: q, If: slices.Repeat(list(api.Sound{Plus: all}), 4),
		Out: slices.Repeat(outs(api.Out{From: 3, Take: all, Of: 3}), 6), Mode: api.ModeLeft,
	}
}

// P9.5: how long a text may be. Reading does not go as deep as the text is long.
func TestLawLength(t *testing.T) {
	defer debug.SetMaxStack(debug.SetMaxStack(1 << 20))
	v := made(manyFeats())
	compareLaw(t, v, manyFeats(), longLaw())
	for _, before := range []string{"", "x", "x: ", "x: [", "x: []", "x: [] > ", "x: [] > {1", "x: [] > {1 ", "x: [] > 0 / ", "x: [] > 0 / _", "x: [] > 0 / _^{"} {
		for _, c := range []string{"x", ": ", "[", "[]", "{", "{1}", " ", "0", "9", "(", "^", "()", "|", "_", "~f000000000000000 ", "+f000000000000000 ", "1:f000000000000000 ", "\n"} {
			text := before + strings.Repeat(c, 65537)
			checkNoLaw(t, v, text[:65535], api.ErrForm)
			checkNoLaw(t, v, text[:65536], api.ErrForm)
			checkNoLaw(t, v, text[:65537], api.ErrLong)
		}
	}
	law := "x: [] > 0 / _"
	checkNoLaw(t, v, law+strings.Repeat(" ", 65536-len(law)), api.ErrForm)
	checkNoLaw(t, v, law+strings.Repeat(" ", 65537-len(law)), api.ErrLong)
	for _, v := range badInvs() {
		for _, text := range []string{"", law, "x: 0 > 0 / _", strings.Repeat("x", 65536), strings.Repeat("x", 65537)} {
			checkNoLaw(t, v, text, api.ErrNil)
		}
	}
}

// P9.4, P9.5: both patterns may have 40 nodes.
func TestManyNodesOfLaws(t *testing.T) {
	v := made(three)
	for n := 1; n < 50; n++ {
		for m := 38; m < 42; m++ {
			text := "x: [] > 0 / " + strings.Repeat("^", n) + "_" + strings.Repeat("$", m)
			if compareText(t, v, three, text) != (n <= 39 && m <= 39) {
				t.Error(n, m)
			}
		}
	}
	q := deep(40, vowel, rep(0, -1))
	compareLaw(t, v, three, api.Law{Name: "x", Left: q, Right: q, If: list(zero), Mode: api.ModeAll})
}

// inside reports whether a text is a part of another one's memory.
func inside(part, text string) bool {
	at := uintptr(unsafe.Pointer(unsafe.StringData(part)))
	from := uintptr(unsafe.Pointer(unsafe.StringData(text)))
	return from <= at && at < from+uintptr(len(text))
}

// P9.4 to P9.7, R4
func TestLawMemory(t *testing.T) {
	v := made(three)
	shared := []api.Pat{vowel, seq(stop, end)}
	l := api.Law{Name: "x", Left: alt(shared...), Right: seq(seq(shared...)), If: list(zero, p), Out: outs(api.Out{From: 1}, api.Out{From: -1, Set: p}), Mode: api.ModeAll}
	before := duplicateLaw(l)
	s, e := lawtext.Print(v, l)
	text, e2 := lawtext.PrintAll(v, []api.Law{l, l})
	if e != api.OK || e2 != api.OK || text != s+"\n"+s+"\n" || !sameLaw(l, before) {
		t.Error(s, text, e, e2, l)
	}
	x, _ := lawtext.Parse(v, s)
	y, _ := lawtext.Parse(v, s)
	all, _, _ := lawtext.ParseAll(v, text)
	again, _, _ := lawtext.ParseAll(v, text)
	if inside(x.Name, s) || inside(all[1].Name, text) || inside(all[0].Name, text) {
		t.Error("the name is a part of the argument")
	}
	changeLaw(&x)
	changeLaw(&all[0])
	for _, other := range []api.Law{y, all[1], again[0], again[1]} {
		if !sameLaw(other, normalLaw(l)) {
			t.Error("two results are one", other)
		}
	}
	change(&y.Left)
	if !samePat(y.Right, modelNormal(l.Right)) {
		t.Error("two lists of the result are one", y)
	}
	if _ = append(again[:1], api.Law{Name: "y"}); len(again) != 2 {
		t.Error(again)
	}
	if z, e := lawtext.Parse(v, s); e != api.OK || !sameLaw(z, normalLaw(l)) {
		t.Error("a result is kept", z, e)
	}
}

// P9.9: the law that is read turns each word into the same word.
func TestSameLaw(t *testing.T) {
	t.Parallel()
	r := rand.New(rand.NewSource(5))
	v := made(three)
	changed := 0
	for k := range 4000 {
		l := randomLaw(r, 3, 1+k%10)
		if k%2 == 0 {
			l.If = l.If[:min(len(l.If), 1)]
			l.Out = outs(api.Out{From: -1, Set: randomSound(r, 3)})
		}
		s, _ := lawtext.Print(v, l)
		x, e := lawtext.Parse(v, s)
		if e != api.OK || !law.Equal(x, normalLaw(l)) {
			t.Fatal(l, s, x, e)
		}
		for range 10 {
			var w api.Word
			for range r.Intn(8) {
				w = append(w, []api.Sound{p, b, a, randomSound(r, 3)}[r.Intn(4)])
			}
			want, e := law.Apply(l, w)
			if u, err := law.Apply(x, w); !slices.Equal(u, want) || err != e {
				t.Fatal(l, s, w, u, err, want, e)
			}
			if !slices.Equal(w, want) {
				changed++
			}
		}
	}
	if changed < 2000 {
		t.Error("too few words are changed", changed)
	}
}
