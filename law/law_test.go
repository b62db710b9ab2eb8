package law_test

import (
	"math"
	"math/rand"
	"slices"
	"strings"
	"testing"

	"ablaut/api"
	"ablaut/law"
)

// compare compares all answers about a valid law and a word with the model.
func compare(t *testing.T, l api.Law, w api.Word) {
	t.Helper()
	hits := modelHits(l, w)
	if x, e := law.Hits(l, w); !slices.Equal(x, hits) || e != api.OK {
		t.Fatal("Hits", l, w, x, e, hits)
	}
	compareOnce(t, l, w, hits)
	places, after, want := modelTrace(l, w)
	if x, y, e := law.Trace(l, w); !slices.Equal(x, places) || !same(y, after) || e != want {
		t.Fatal("Trace", l, w, x, y, e, places, after, want)
	}
	last := lastOf(w, after, want)
	if v, e := law.Apply(l, w); !slices.Equal(v, last) || e != want {
		t.Fatal("Apply", l, w, v, e, last, want)
	}
	changed := want == api.OK && !slices.Equal(last, w)
	if is, e := law.Changes(l, w); is != changed || e != want {
		t.Fatal("Changes", l, w, is, e, changed, want)
	}
	compareSettle(t, l, w, 3)
}

func compareOnce(t *testing.T, l api.Law, w api.Word, hits []int) {
	t.Helper()
	for at := -1; at <= len(w)+1; at++ {
		var want api.Word
		e := api.OK
		switch {
		case at < 0 || at > len(w):
			e = api.ErrRange
		case !slices.Contains(hits, at):
			e = api.ErrNone
		case len(w)-len(l.If)+len(l.Out) > 32:
			e = api.ErrLong
		default:
			want = slices.Concat(w[:at], modelPut(l, w[at:at+len(l.If)]), w[at+len(l.If):])
		}
		if v, err := law.Once(l, w, at); !slices.Equal(v, want) || err != e {
			t.Fatal("Once", l, w, at, v, err, want, e)
		}
	}
}

func compareSettle(t *testing.T, l api.Law, w api.Word, most int) {
	t.Helper()
	last, times, want := modelSettle(l, w, most)
	if v, n, e := law.Settle(l, w, most); !slices.Equal(v, last) || n != times || e != want {
		t.Fatal("Settle", l, w, most, v, n, e, last, times, want)
	}
}

// checkError checks the error of all functions with a law and a word, whatever else they are given, and the zero values beside it.
func checkError(t *testing.T, l api.Law, w api.Word, want api.Errno) {
	t.Helper()
	if x, e := law.Hits(l, w); len(x) > 0 || e != want {
		t.Error("Hits", l, w, x, e, want)
	}
	for _, at := range []int{0, 1, -1, len(w), len(w) + 1, math.MinInt, math.MaxInt} {
		if v, e := law.Once(l, w, at); len(v) > 0 || e != want {
			t.Error("Once", l, w, at, v, e, want)
		}
	}
	if v, e := law.Apply(l, w); len(v) > 0 || e != want {
		t.Error("Apply", l, w, v, e, want)
	}
	if x, y, e := law.Trace(l, w); len(x) > 0 || len(y) > 0 || e != want {
		t.Error("Trace", l, w, x, y, e, want)
	}
	if is, e := law.Changes(l, w); is || e != want {
		t.Error("Changes", l, w, is, e, want)
	}
	for _, most := range []int{0, 1, 100, -1, 101, math.MinInt, math.MaxInt} {
		if v, n, e := law.Settle(l, w, most); len(v) > 0 || n != 0 || e != want {
			t.Error("Settle", l, w, most, v, n, e, want)
		}
	}
}

// badWords are words that are not valid, with their errors.
func badWords() (l []api.Word, errs []api.Errno) {
	for _, s := range invalid() {
		l = append(l, api.Word{s}, api.Word{p, a, s}, append(slices.Repeat(api.Word{a}, 31), s))
		errs = append(errs, api.ErrSound, api.ErrSound, api.ErrSound)
		l = append(l, append(slices.Repeat(api.Word{a}, 32), s), append(api.Word{s}, slices.Repeat(api.Word{a}, 32)...))
		errs = append(errs, api.ErrLong, api.ErrLong)
	}
	for _, n := range []int{33, 34, 100} {
		l, errs = append(l, slices.Repeat(api.Word{p}, n)), append(errs, api.ErrLong)
	}
	return l, errs
}

// checkBad checks what all functions say to a law that is not valid.
func checkBad(t *testing.T, l api.Law) {
	t.Helper()
	if e := law.Check(l); e != api.ErrLaw {
		t.Error("Check", l, e)
	}
	if n, e := law.Kind(l); n != 0 || e != api.ErrLaw {
		t.Error("Kind", l, n, e)
	}
	for _, w := range []api.Word{nil, read("apa"), slices.Repeat(api.Word{a}, 32), slices.Repeat(api.Word{a}, 33), {invalid()[0]}} {
		checkError(t, l, w, api.ErrLaw)
	}
}

func checkGood(t *testing.T, l api.Law) {
	t.Helper()
	if e := law.Check(l); e != api.OK {
		t.Error("Check", l, e)
	}
	if _, e := law.Kind(l); e != api.OK {
		t.Error("Kind", l, e)
	}
	if _, e := law.Hits(l, read("apa")); e != api.OK {
		t.Error("Hits", l, e)
	}
}

// P8.1
func TestCheckName(t *testing.T) {
	l := lawV()
	for _, good := range []string{"x", "Z", "0", "9", "-", "--", "a-B-7", "Grimm", strings.Repeat("x", 24), "abcdefghijklmnopqrstuvwx"} {
		l.Name = good
		checkGood(t, l)
	}
	for _, bad := range []string{"", " ", "x ", " x", "x_y", "x.", "ä", "\x00", "x\n", "a:b", strings.Repeat("x", 25), strings.Repeat("x", 1000), strings.Repeat("é", 12)} {
		l.Name = bad
		checkBad(t, l)
	}
	for c := range 256 {
		for _, name := range []string{string([]byte{byte(c)}), string([]byte{'x', byte(c)}), string([]byte{byte(c), 'x'})} {
			l.Name = name
			want := api.ErrLaw
			if modelName(name) {
				want = api.OK
			}
			if e := law.Check(l); e != want {
				t.Error(c, e)
			}
		}
	}
}

// P8.1
func TestCheckPatterns(t *testing.T) {
	for _, q := range []api.Pat{empty, begin, end, vowel, other, seq(), never, rep(0, -1, vowel), rep(32, 32, seq()), broad(40), seq(end, begin)} {
		l, m := lawV(), lawV()
		l.Left, m.Right = q, q
		checkGood(t, l)
		checkGood(t, m)
	}
	inItself := make([]api.Pat, 1)
	inItself[0] = seq()
	inItself[0].L = inItself
	bad := []api.Pat{
		{Kind: 7}, {Kind: -1}, {Min: 1}, {Kind: api.PatBegin, Not: true}, seq(vowel, api.Pat{Kind: 9}), rep(0, -1), rep(2, 1, vowel), rep(0, 33, vowel), rep(-1, 0, vowel),
		{Kind: api.PatSound, L: []api.Pat{empty}}, {Is: p}, {Kind: api.PatSeq, Is: p}, broad(41), broad(1000), inItself[0], {L: []api.Pat{empty}},
	}
	for _, s := range invalid() {
		bad = append(bad, sound(s), seq(vowel, rep(0, 1, sound(s))))
	}
	for _, q := range bad {
		l, m := lawV(), lawV()
		l.Left, m.Right = q, q
		checkBad(t, l)
		checkBad(t, m)
	}
	// Both patterns may have 40 nodes.
	l := lawV()
	l.Left, l.Right = broad(40), broad(40)
	checkGood(t, l)
}

// P8.1
func TestCheckIf(t *testing.T) {
	valid := list(zero, p, api.Sound{Plus: 1 << 23}, api.Sound{Minus: 1<<24 - 1})
	for n := range 5 {
		checkGood(t, api.Law{Name: "x", If: valid[:n], Out: []api.Out{put(a)}, Mode: api.ModeAll})
		if n > 0 {
			checkGood(t, api.Law{Name: "x", If: valid[:n], Mode: api.ModeAll})
		}
	}
	for _, n := range []int{5, 6, 40, 10000} {
		checkBad(t, api.Law{Name: "x", If: slices.Repeat(list(zero), n), Mode: api.ModeAll})
		checkBad(t, api.Law{Name: "x", If: slices.Repeat(list(zero), n), Out: []api.Out{put(a)}, Mode: api.ModeAll})
	}
	for _, s := range invalid() {
		for i := range 4 {
			l := api.Law{Name: "x", If: slices.Clone(valid), Out: []api.Out{keep(0)}, Mode: api.ModeAll}
			l.If[i] = s
			checkBad(t, l)
		}
		checkBad(t, api.Law{Name: "x", If: list(s), Mode: api.ModeAll})
	}
	// Both are empty, with or without room.
	for _, mode := range modes {
		checkBad(t, api.Law{Name: "x", Mode: mode})
		checkBad(t, api.Law{Name: "x", Left: vowel, Right: vowel, Mode: mode})
		checkBad(t, api.Law{Name: "x", If: []api.Sound{p}[:0], Out: []api.Out{put(a)}[:0], Mode: mode})
	}
}

// P8.1
func TestCheckOut(t *testing.T) {
	for n := range 10 {
		for conditions := range 5 {
			l := api.Law{Name: "x", If: make([]api.Sound, conditions), Out: slices.Repeat([]api.Out{put(a)}, n), Mode: api.ModeLeft}
			if n <= 6 && n+conditions > 0 {
				checkGood(t, l)
			} else {
				checkBad(t, l)
			}
		}
	}
	checkBad(t, api.Law{Name: "x", Out: slices.Repeat([]api.Out{put(a)}, 10000), Mode: api.ModeAll})
}

// P8.1: each element of Out is looked at.
func checkElement(t *testing.T, conditions int, o api.Out, valid bool) {
	t.Helper()
	for n := 1; n <= 6; n += 5 {
		for i := range n {
			l := api.Law{Name: "x", If: make([]api.Sound, conditions), Out: slices.Repeat([]api.Out{put(a)}, n), Mode: api.ModeRight}
			l.Out[i] = o
			if valid {
				checkGood(t, l)
			} else {
				checkBad(t, l)
			}
		}
	}
}

// P8.1
func TestCheckFromOf(t *testing.T) {
	numbers := []int{-1, 0, 1, 2, 3, 4, 5, -2, 32, 1 << 32, 1<<32 + 1, -1 << 32, math.MinInt, math.MaxInt}
	for conditions := range 5 {
		for _, n := range numbers {
			checkElement(t, conditions, keep(n), n >= -1 && n < conditions)
			checkElement(t, conditions, api.Out{From: -1, Take: 1, Of: n}, n >= 0 && n < conditions)
			checkElement(t, conditions, api.Out{From: -1, Of: n}, n == 0)
			checkElement(t, conditions, api.Out{From: -1, Set: voiced, Clear: 2, Of: n}, n == 0)
		}
	}
}

// P8.1
func TestCheckFeatures(t *testing.T) {
	for _, s := range invalid() {
		checkElement(t, 1, set(0, s), false)
		checkElement(t, 0, put(s), false)
	}
	for f := range 32 {
		bit, is := uint32(1)<<f, f < 24
		checkElement(t, 1, api.Out{Clear: bit}, is)
		checkElement(t, 1, api.Out{Take: bit}, is)
		checkElement(t, 1, api.Out{Set: api.Sound{Plus: bit}}, is)
		checkElement(t, 1, api.Out{Set: api.Sound{Minus: bit}}, is)
		checkElement(t, 1, api.Out{Clear: bit, Take: bit}, false)
		checkElement(t, 1, api.Out{Clear: bit, Set: api.Sound{Plus: bit}}, false)
		checkElement(t, 1, api.Out{Clear: bit, Set: api.Sound{Minus: bit}}, false)
		checkElement(t, 1, api.Out{Take: bit, Set: api.Sound{Plus: bit}}, false)
		checkElement(t, 1, api.Out{Take: bit, Set: api.Sound{Minus: bit}}, false)
	}
	for _, x := range []struct {
		o  api.Out
		is bool
	}{
		{api.Out{Clear: 1, Take: 2, Set: api.Sound{Plus: 4, Minus: 8}}, true},
		{api.Out{Clear: 1<<12 - 1, Take: 1<<24 - 1<<12}, true},
		{api.Out{Clear: 1<<24 - 1}, true},
		{api.Out{Take: 1<<24 - 1}, true},
		{api.Out{Set: api.Sound{Plus: 1<<12 - 1, Minus: 1<<24 - 1<<12}}, true},
		{api.Out{Clear: 3, Take: 6, Set: api.Sound{Plus: 8}}, false},
		{api.Out{Clear: 1<<13 - 1, Take: 1<<24 - 1<<12}, false},
		{api.Out{Clear: 1 << 31, Take: 1}, false},
		{api.Out{Clear: 1, Take: 1 << 31}, false},
		{api.Out{Clear: 1<<25 - 1}, false},
		{api.Out{Take: 1<<25 - 1}, false},
	} {
		checkElement(t, 1, x.o, x.is)
	}
}

// P8.1
func TestCheckMode(t *testing.T) {
	for _, mode := range modes {
		checkGood(t, in(lawV(), mode))
	}
	for _, mode := range []int{0, 4, -1, 5, 1 << 32, 1<<32 + 1, math.MinInt, math.MinInt + 1, math.MaxInt} {
		checkBad(t, in(lawV(), mode))
	}
	checkBad(t, api.Law{})
}

// P8.1
func TestCheckModel(t *testing.T) {
	r := rand.New(rand.NewSource(1))
	good := 0
	for range 40000 {
		l := wild(r)
		if modelLaw(l) {
			good++
			checkGood(t, l)
		} else if e := law.Check(l); e != api.ErrLaw {
			t.Fatal(l, e)
		}
	}
	if good < 4000 || good > 36000 {
		t.Error("the laws are of one kind", good)
	}
}

// smallLaws are laws of a few conditions and results.
func smallLaws() []api.Law {
	lefts := []api.Pat{empty, begin, vowel, seq(begin, rep(0, -1, other))}
	rights := []api.Pat{empty, stop, alt(end, vowel), seq(vowel, end)}
	ifs := [][]api.Sound{nil, list(zero), list(isVowel), list(isStop), list(isVowel, isStop), list(zero, zero), list(isStop, isVowel, zero)}
	var l []api.Law
	for _, cond := range ifs {
		outs := [][]api.Out{nil, {put(a)}, {put(p), put(a)}}
		if len(cond) > 0 {
			last := len(cond) - 1
			outs = append(outs, []api.Out{keep(last)}, []api.Out{keep(last), keep(0)}, []api.Out{{From: 0, Clear: 4, Take: 1, Of: last}, put(p), set(last, api.Sound{Plus: 4, Minus: 2})})
		}
		for _, out := range outs {
			for k := range len(lefts) * len(rights) {
				for _, mode := range modes {
					if len(cond)+len(out) > 0 {
						l = append(l, api.Law{Name: "x", Left: lefts[k/4], Right: rights[k%4], If: cond, Out: out, Mode: mode})
					}
				}
			}
		}
	}
	return l
}

// P8.2 to P8.6: all small laws and short words.
func TestSmall(t *testing.T) {
	t.Parallel()
	short := append(words(3, p, a), read("aaaa"), read("papa"), read("appa"), read("aapp"))
	for _, l := range smallLaws() {
		for _, w := range short {
			compare(t, l, w)
		}
	}
}

// P8.2 to P8.6: random laws and words.
func TestRandom(t *testing.T) {
	t.Parallel()
	r := rand.New(rand.NewSource(2))
	for k := range 2000 {
		l := randomLaw(r, 1+k%12)
		for range 4 {
			compare(t, l, randomWord(r, r.Intn(9)))
		}
		if k%20 == 0 {
			compare(t, l, randomWord(r, 20+r.Intn(13)))
		}
	}
	for range 20 {
		l := randomLaw(r, 4)
		l.Left, l.Right = randomPat(r, 40), randomPat(r, 40)
		compare(t, l, randomWord(r, r.Intn(13)))
	}
}

// P8.2
func TestHitsCases(t *testing.T) {
	long := slices.Repeat(api.Word{a}, 32)
	all := make([]int, 33)
	for i := range all {
		all[i] = i
	}
	for k, x := range []struct {
		l    api.Law
		w    api.Word
		want []int
	}{
		{lawV(), read("apapa"), []int{1, 3}},
		{lawV(), nil, nil},
		{lawV(), read("pap"), nil},
		{lawF(), read("apa"), []int{2}},
		{lawF(), nil, nil},
		{lawE(), read("pa"), []int{0}},
		{lawE(), nil, []int{0}},
		// Without conditions and patterns, all places are hit, the last one too.
		{api.Law{Out: []api.Out{put(a)}}, nil, []int{0}},
		{api.Law{Out: []api.Out{put(a)}}, read("pap"), []int{0, 1, 2, 3}},
		{api.Law{Out: []api.Out{put(a)}}, long, all},
		{api.Law{Right: end, Out: []api.Out{put(a)}}, read("pap"), []int{3}},
		// Hits overlap.
		{api.Law{If: list(isVowel, isVowel)}, read("aaaa"), []int{0, 1, 2}},
		{api.Law{If: list(isVowel, zero, isVowel)}, read("aaapa"), []int{0, 2}},
		{api.Law{If: list(zero, zero, zero, zero)}, read("papa"), []int{0}},
		{api.Law{If: list(zero, zero, zero, zero)}, read("pap"), nil},
		{api.Law{If: list(zero)}, long, all[:32]},
		{api.Law{If: list(zero, zero, zero, zero)}, long, all[:29]},
		// Patterns that match the empty part ask nothing; those that match nothing are never satisfied.
		{api.Law{If: list(isStop), Left: rep(0, -1, vowel), Right: rep(0, 1, stop)}, read("pppa"), []int{0, 1, 2}},
		{api.Law{If: list(isStop), Left: never}, read("pp"), nil},
		{api.Law{If: list(isStop), Right: never}, read("pp"), nil},
		// The beginning is before the sounds, and the end behind them.
		{api.Law{If: list(zero), Left: begin}, read("pp"), []int{0}},
		{api.Law{If: list(zero), Left: end}, read("pp"), nil},
		{api.Law{If: list(zero), Right: end}, read("pp"), []int{1}},
		{api.Law{If: list(zero), Right: begin}, read("pp"), nil},
		{api.Law{If: list(zero, zero), Left: begin, Right: end}, read("pp"), []int{0}},
		{api.Law{If: list(zero, zero), Left: begin, Right: end}, read("ppp"), nil},
		{api.Law{Out: []api.Out{put(a)}, Left: seq(begin, end)}, nil, []int{0}},
		{api.Law{Out: []api.Out{put(a)}, Left: begin, Right: end}, read("p"), nil},
		// Only some of the parts that end, or begin, at the place are matched.
		{api.Law{If: list(isStop), Left: seq(begin, rep(2, 3, vowel))}, read("apaap"), nil},
		{api.Law{If: list(isStop), Left: seq(begin, rep(2, 3, vowel))}, read("aapp"), []int{2}},
		{api.Law{If: list(isVowel), Right: seq(rep(1, -1, stop), end)}, read("apapp"), []int{2}},
		// A sound without values satisfies only the condition without values.
		{api.Law{If: list(zero)}, read("..p"), []int{0, 1, 2}},
		{api.Law{If: list(api.Sound{Minus: 4})}, read("..p"), []int{2}},
	} {
		for _, mode := range modes {
			x.l.Name, x.l.Mode = "x", mode
			if l, e := law.Hits(x.l, x.w); !slices.Equal(l, x.want) || e != api.OK {
				t.Error(k, mode, l, e)
			}
		}
	}
}

// P8.3
func TestOnceCases(t *testing.T) {
	double := api.Law{Name: "x", If: list(isVowel), Out: []api.Out{keep(0), keep(0)}, Mode: api.ModeLeft}
	pairs := api.Law{Name: "x", If: list(isVowel, isVowel), Mode: api.ModeAll}
	long := slices.Repeat(api.Word{a}, 32)
	for k, x := range []struct {
		l    api.Law
		w    api.Word
		at   int
		want api.Word
		e    api.Errno
	}{
		{lawF(), read("apa"), 0, nil, api.ErrNone},
		{lawF(), read("apa"), 2, read("ap"), api.OK},
		{lawF(), read("apa"), 3, nil, api.ErrNone},
		{lawF(), read("apa"), 4, nil, api.ErrRange},
		{lawF(), read("apa"), -1, nil, api.ErrRange},
		{lawF(), nil, 0, nil, api.ErrNone},
		{lawF(), nil, 1, nil, api.ErrRange},
		{lawE(), nil, 0, read("a"), api.OK},
		{lawE(), nil, -1, nil, api.ErrRange},
		{lawE(), read("p"), 1, nil, api.ErrNone},
		{lawE(), long, 0, nil, api.ErrLong},
		{lawE(), long, 32, nil, api.ErrNone},
		{lawE(), long, 33, nil, api.ErrRange},
		{lawE(), long[1:], 0, long, api.OK},
		{double, long, 31, nil, api.ErrLong},
		{double, long[1:], 30, long, api.OK},
		{double, read("pa"), 1, read("paa"), api.OK},
		// Only this place is replaced, also where a place before it is hit.
		{pairs, read("aaaa"), 1, read("aa"), api.OK},
		{pairs, read("aaap"), 1, read("ap"), api.OK},
		{pairs, long, 30, long[2:], api.OK},
		{pairs, long, 31, nil, api.ErrNone},
		{pairs, long, math.MinInt, nil, api.ErrRange},
		{pairs, long, math.MaxInt, nil, api.ErrRange},
	} {
		if v, e := law.Once(x.l, x.w, x.at); !slices.Equal(v, x.want) || e != x.e {
			t.Error(k, v, e)
		}
	}
}

// P8.3, P8.4: what a replacement makes of the features.
func TestReplacement(t *testing.T) {
	high, low := api.Sound{Plus: 1 << 23, Minus: 1}, api.Sound{Plus: 8, Minus: 1 << 22}
	for k, x := range []struct {
		o    api.Out
		want api.Sound
	}{
		{keep(0), p}, {keep(1), high}, {keep(-1), zero},
		{api.Out{From: 0, Clear: 3}, api.Sound{Minus: 4}},
		{api.Out{From: 0, Clear: 1<<24 - 1}, zero},
		{api.Out{From: -1, Clear: 1<<24 - 1}, zero},
		{api.Out{From: 0, Clear: 8}, p},
		{api.Out{From: 0, Set: voiced}, b},
		{api.Out{From: 0, Set: api.Sound{Minus: 3}}, api.Sound{Minus: 7}},
		{api.Out{From: 0, Set: low}, api.Sound{Plus: 10, Minus: 5 | 1<<22}},
		{api.Out{From: 0, Take: 1 << 23, Of: 1}, api.Sound{Plus: 2 | 1<<23, Minus: 5}},
		{api.Out{From: 0, Take: 2, Of: 1}, api.Sound{Minus: 5}},
		{api.Out{From: 1, Take: 7, Of: 0}, api.Sound{Plus: 2 | 1<<23, Minus: 5}},
		{api.Out{From: -1, Take: 1<<24 - 1, Of: 1}, high},
		{api.Out{From: -1, Take: 1, Of: 1}, api.Sound{Minus: 1}},
		{api.Out{From: 0, Take: 1<<24 - 1, Of: 0}, p},
		{api.Out{From: 0, Clear: 2, Set: api.Sound{Plus: 4}, Take: 1<<23 | 1, Of: 1}, api.Sound{Plus: 1<<23 | 4, Minus: 1}},
		{api.Out{From: 1, Clear: 1 << 23, Set: api.Sound{Minus: 8}, Take: 6, Of: 0}, api.Sound{Plus: 2, Minus: 13}},
	} {
		for _, mode := range modes {
			// The sound behind it must come from what was taken out, not from what was put in.
			l := api.Law{Name: "x", If: list(isStop, zero), Out: []api.Out{x.o, keep(1), keep(0)}, Mode: mode}
			want := api.Word{a, x.want, high, p, a}
			if v, e := law.Once(l, api.Word{a, p, high, a}, 1); !slices.Equal(v, want) || e != api.OK {
				t.Error(k, mode, v, e)
			}
			if v, e := law.Apply(l, api.Word{a, p, high, a}); !slices.Equal(v, want) || e != api.OK {
				t.Error(k, mode, v, e)
			}
		}
	}
}

// P8.4, P8.5: what the modes make of the same law. The places are those of ModeAll, ModeRight and ModeLeft.
func TestModes(t *testing.T) {
	devoiced := api.Sound{Minus: 1}
	for k, x := range []struct {
		l      api.Law
		w      string
		want   [3]string
		places [3][]int
	}{
		// The voice spreads to the right.
		{api.Law{Left: sound(voiced), If: list(isStop), Out: []api.Out{set(0, voiced)}}, "bppp", [3]string{"bbpp", "bbbb", "bbpp"}, [3][]int{{1}, {1, 2, 3}, {1}}},
		// And to the left.
		{api.Law{Right: sound(voiced), If: list(isStop), Out: []api.Out{set(0, voiced)}}, "pppb", [3]string{"ppbb", "ppbb", "bbbb"}, [3][]int{{2}, {2}, {2, 1, 0}}},
		// Of neighbours with voice, each second one loses it.
		{api.Law{Left: sound(voiced), If: list(isStop), Out: []api.Out{set(0, devoiced)}}, "bbbb", [3]string{"bppp", "bpbp", "bppp"}, [3][]int{{1, 2, 3}, {1, 3}, {3, 2, 1}}},
		{api.Law{Right: sound(voiced), If: list(isStop), Out: []api.Out{set(0, devoiced)}}, "bbbb", [3]string{"pppb", "pppb", "pbpb"}, [3][]int{{0, 1, 2}, {0, 1, 2}, {2, 0}}},
		// Two sounds become one.
		{api.Law{If: list(isVowel, isVowel), Out: []api.Out{put(b)}}, "aaa", [3]string{"ba", "ba", "ab"}, [3][]int{{0}, {0}, {1}}},
		{api.Law{If: list(isVowel, isVowel), Out: []api.Out{put(b)}}, "aaaaa", [3]string{"bba", "bba", "abb"}, [3][]int{{0, 2}, {0, 1}, {3, 1}}},
		{api.Law{If: list(isVowel, isVowel), Out: []api.Out{keep(0)}}, "aaaa", [3]string{"aa", "aa", "aa"}, [3][]int{{0, 2}, {0, 1}, {2, 0}}},
		// Two sounds change places: what was put in is not looked at again.
		{api.Law{If: list(isStop, isVowel), Out: []api.Out{keep(1), keep(0)}}, "ppaa", [3]string{"papa", "papa", "papa"}, [3][]int{{1}, {1}, {1}}},
		{api.Law{If: list(isStop, isVowel), Out: []api.Out{keep(1), keep(0)}}, "papa", [3]string{"apap", "apap", "apap"}, [3][]int{{0, 2}, {0, 2}, {2, 0}}},
		// Losses: the place stays where it is in ModeRight.
		{api.Law{Left: vowel, If: list(isVowel)}, "aaaa", [3]string{"a", "a", "a"}, [3][]int{{1, 2, 3}, {1, 1, 1}, {3, 2, 1}}},
		{api.Law{If: list(isVowel)}, "apaa", [3]string{"p", "p", "p"}, [3][]int{{0, 2, 3}, {0, 1, 1}, {3, 2, 0}}},
		{api.Law{Right: end, If: list(isVowel)}, "paa", [3]string{"pa", "pa", "p"}, [3][]int{{2}, {2}, {2, 1}}},
		{api.Law{Left: begin, If: list(isVowel)}, "aap", [3]string{"ap", "p", "ap"}, [3][]int{{0}, {0, 0}, {0}}},
		// Without conditions, one sound is passed behind what was put in.
		{api.Law{Left: stop, Right: stop, Out: []api.Out{put(a)}}, "ppp", [3]string{"papap", "papap", "papap"}, [3][]int{{1, 2}, {1, 3}, {2, 1}}},
		{api.Law{Out: []api.Out{put(p), put(b)}}, "aa", [3]string{"pbapbapb", "pbapbapb", "pbapbapb"}, [3][]int{{0, 1, 2}, {0, 3, 6}, {2, 1, 0}}},
		{api.Law{Out: []api.Out{put(p)}}, "", [3]string{"p", "p", "p"}, [3][]int{{0}, {0}, {0}}},
		{api.Law{Left: rep(1, 1, alt(begin, stop)), Right: vowel, Out: []api.Out{put(p)}}, "aa", [3]string{"paa", "paa", "paa"}, [3][]int{{0}, {0}, {0}}},
		{api.Law{Left: stop, Out: []api.Out{put(p)}}, "pa", [3]string{"ppa", "ppa", "ppa"}, [3][]int{{1}, {1}, {1}}},
		{api.Law{Right: alt(vowel, stop), Out: []api.Out{put(p)}}, "a", [3]string{"pa", "pa", "pa"}, [3][]int{{0}, {0}, {0}}},
		{api.Law{Left: begin, Right: vowel, Out: []api.Out{put(a)}}, "aa", [3]string{"aaa", "aaa", "aaa"}, [3][]int{{0}, {0}, {0}}},
		// A sound is doubled, or more than doubled.
		{api.Law{If: list(isVowel), Out: []api.Out{keep(0), keep(0)}}, "apa", [3]string{"aapaa", "aapaa", "aapaa"}, [3][]int{{0, 2}, {0, 3}, {2, 0}}},
		{api.Law{If: list(isVowel), Right: stop, Out: []api.Out{keep(0), put(p), keep(0)}}, "ap", [3]string{"apap", "apap", "apap"}, [3][]int{{0}, {0}, {0}}},
	} {
		for i, mode := range modes {
			x.l.Name, x.l.Mode = "x", mode
			if v, e := law.Apply(x.l, read(x.w)); !slices.Equal(v, read(x.want[i])) || e != api.OK {
				t.Error("Apply", k, mode, v, e)
			}
			places, after, e := law.Trace(x.l, read(x.w))
			if !slices.Equal(places, x.places[i]) || len(after) != len(places) || e != api.OK {
				t.Error("Trace", k, mode, places, after, e)
			}
			if is, e := law.Changes(x.l, read(x.w)); is != (x.w != x.want[i]) || e != api.OK {
				t.Error("Changes", k, mode, is, e)
			}
		}
	}
}

// P8.5: the words between.
func TestTraceWords(t *testing.T) {
	drop := api.Law{Name: "x", If: list(isVowel)}
	grow := api.Law{Name: "x", If: list(isVowel), Out: []api.Out{put(b), keep(0), put(b)}}
	for k, x := range []struct {
		l    api.Law
		mode int
		w    string
		want []string
	}{
		{lawV(), api.ModeAll, "apapa", []string{"abapa", "ababa"}},
		{lawV(), api.ModeRight, "apapa", []string{"abapa", "ababa"}},
		{lawV(), api.ModeLeft, "apapa", []string{"apaba", "ababa"}},
		{lawV(), api.ModeAll, "pap", nil},
		{drop, api.ModeAll, "apaab", []string{"paab", "pab", "pb"}},
		{drop, api.ModeRight, "apaab", []string{"paab", "pab", "pb"}},
		{drop, api.ModeLeft, "apaab", []string{"apab", "apb", "pb"}},
		{grow, api.ModeAll, "apa", []string{"babpa", "babpbab"}},
		{grow, api.ModeRight, "apa", []string{"babpa", "babpbab"}},
		{grow, api.ModeLeft, "apa", []string{"apbab", "babpbab"}},
		// A replacement that changes nothing is one.
		{api.Law{Name: "x", If: list(isVowel), Out: []api.Out{keep(0)}}, api.ModeAll, "aa", []string{"aa", "aa"}},
		{drop, api.ModeAll, "", nil},
	} {
		places, after, e := law.Trace(in(x.l, x.mode), read(x.w))
		var want []api.Word
		for _, w := range x.want {
			want = append(want, read(w))
		}
		if !same(after, want) || len(places) != len(want) || e != api.OK {
			t.Error(k, places, after, e)
		}
	}
}

// checkLong checks that applying a law fails.
func checkLong(t *testing.T, l api.Law, w api.Word) {
	t.Helper()
	if v, e := law.Apply(l, w); len(v) > 0 || e != api.ErrLong {
		t.Error("Apply", l, w, v, e)
	}
	if is, e := law.Changes(l, w); is || e != api.ErrLong {
		t.Error("Changes", l, w, is, e)
	}
	if x, y, e := law.Trace(l, w); len(x) > 0 || len(y) > 0 || e != api.ErrLong {
		t.Error("Trace", l, w, x, y, e)
	}
	if v, n, e := law.Settle(l, w, 0); !slices.Equal(v, w) || n != 0 || e != api.OK {
		t.Error("Settle", l, w, v, n, e)
	}
	for _, most := range []int{1, 2, 100} {
		if v, n, e := law.Settle(l, w, most); len(v) > 0 || n != 0 || e != api.ErrLong {
			t.Error("Settle", l, w, most, v, n, e)
		}
	}
}

// P8.4 to P8.6: words that become as long as they may, and longer.
func TestLong(t *testing.T) {
	for _, mode := range modes {
		for size := 1; size <= 6; size++ {
			grow := api.Law{Name: "x", If: list(isVowel), Out: slices.Repeat([]api.Out{keep(0)}, size), Mode: mode}
			insert := api.Law{Name: "x", Left: vowel, Out: slices.Repeat([]api.Out{put(p)}, size), Mode: mode}
			for vowels := 1; vowels <= 32; vowels++ {
				for _, n := range []int{32 - size*vowels, 32 - size*vowels + vowels, 32 - vowels} {
					for _, n := range []int{n - 1, n, n + 1} {
						if n < 0 || n+vowels > 32 {
							continue
						}
						w := append(slices.Repeat(api.Word{a}, vowels), slices.Repeat(api.Word{b}, n)...)
						for l, more := range map[*api.Law]int{&grow: vowels * (size - 1), &insert: vowels * size} {
							if len(w)+more > 32 {
								checkLong(t, *l, w)
							} else if v, e := law.Apply(*l, w); len(v) != len(w)+more || e != api.OK {
								t.Error(*l, w, v, e)
							}
						}
					}
				}
			}
		}
		// A replacement takes sounds out before it puts others in, so a full word may have it.
		swap := api.Law{Name: "x", If: list(zero, zero, zero, zero), Out: []api.Out{keep(3), keep(2), keep(1), keep(0)}, Mode: mode}
		full := slices.Repeat(read("papb"), 8)
		if v, e := law.Apply(swap, full); !slices.Equal(v, slices.Repeat(read("bpap"), 8)) || e != api.OK {
			t.Error(mode, v, e)
		}
		if _, after, e := law.Trace(swap, full); len(after) != 8 || e != api.OK {
			t.Error(mode, after, e)
		}
	}
}

// P8.2 to P8.6: the errors of the word.
func TestWordErrors(t *testing.T) {
	bad, errs := badWords()
	for i, w := range bad {
		for _, l := range []api.Law{lawV(), lawF(), lawE(), in(lawE(), api.ModeRight), in(lawV(), api.ModeLeft)} {
			checkError(t, l, w, errs[i])
		}
	}
}

// P8.6
func TestSettle(t *testing.T) {
	swap := api.Law{Name: "x", Left: begin, Right: end, If: list(zero, zero), Out: []api.Out{keep(1), keep(0)}, Mode: api.ModeAll}
	drop := api.Law{Name: "x", Left: begin, If: list(isVowel), Mode: api.ModeAll}
	nothing := api.Law{Name: "x", If: list(zero), Out: []api.Out{keep(0)}, Mode: api.ModeAll}
	long := slices.Repeat(api.Word{a}, 32)
	for k, x := range []struct {
		l     api.Law
		w     api.Word
		most  int
		want  api.Word
		times int
		e     api.Errno
	}{
		{lawE(), read("pa"), 3, read("aaapa"), 3, api.OK},
		{lawE(), read("pa"), 0, read("pa"), 0, api.OK},
		{lawE(), read("pa"), 30, append(slices.Repeat(api.Word{a}, 30), read("pa")...), 30, api.OK},
		{lawE(), read("pa"), 31, nil, 0, api.ErrLong},
		{lawE(), read("pa"), 100, nil, 0, api.ErrLong},
		{lawE(), long, 0, long, 0, api.OK},
		{lawE(), long, 1, nil, 0, api.ErrLong},
		{lawE(), nil, 32, long, 32, api.OK},
		{lawE(), nil, 33, nil, 0, api.ErrLong},
		// A law that never comes to rest.
		{swap, read("pa"), 0, read("pa"), 0, api.OK},
		{swap, read("pa"), 1, read("ap"), 1, api.OK},
		{swap, read("pa"), 2, read("pa"), 2, api.OK},
		{swap, read("pa"), 99, read("ap"), 99, api.OK},
		{swap, read("pa"), 100, read("pa"), 100, api.OK},
		{swap, read("aa"), 100, read("aa"), 0, api.OK},
		// One that comes to rest.
		{drop, read("aaap"), 100, read("p"), 3, api.OK},
		{drop, read("aaap"), 4, read("p"), 3, api.OK},
		{drop, read("aaap"), 3, read("p"), 3, api.OK},
		{drop, read("aaap"), 2, read("ap"), 2, api.OK},
		{drop, read("aaa"), 100, nil, 3, api.OK},
		{drop, long, 100, nil, 32, api.OK},
		{drop, nil, 100, nil, 0, api.OK},
		{nothing, long, 100, long, 0, api.OK},
		{lawV(), read("apapa"), 100, read("ababa"), 1, api.OK},
		{lawV(), read("pap"), 100, read("pap"), 0, api.OK},
		// The number is looked at before anything is applied.
		{lawE(), long, 101, nil, 0, api.ErrRange},
		{lawE(), long, -1, nil, 0, api.ErrRange},
		{lawV(), read("pap"), 101, nil, 0, api.ErrRange},
		{lawV(), read("pap"), -1, nil, 0, api.ErrRange},
		{lawV(), nil, math.MinInt, nil, 0, api.ErrRange},
		{lawV(), nil, math.MaxInt, nil, 0, api.ErrRange},
		{lawV(), nil, 1 << 32, nil, 0, api.ErrRange},
	} {
		if v, n, e := law.Settle(x.l, x.w, x.most); !slices.Equal(v, x.want) || n != x.times || e != x.e {
			t.Error(k, v, n, e)
		}
	}
	r := rand.New(rand.NewSource(3))
	for range 300 {
		compareSettle(t, randomLaw(r, 3), randomWord(r, r.Intn(12)), r.Intn(101))
	}
}

// P8.7: all kinds of From, with all numbers of conditions and results.
func TestKind(t *testing.T) {
	for conditions := range 5 {
		for results := range 7 {
			if conditions+results == 0 || results > 4 && conditions > 2 {
				continue
			}
			choices := 1
			for range results {
				choices *= conditions + 1
			}
			for n := range choices {
				l := api.Law{Name: "x", If: make([]api.Sound, conditions), Mode: api.ModeAll}
				for rest := n; len(l.Out) < results; rest /= conditions + 1 {
					l.Out = append(l.Out, keep(rest%(conditions+1)-1))
				}
				if kind, e := law.Kind(l); kind != modelKind(l) || e != api.OK {
					t.Fatal(l, kind, e)
				}
			}
		}
	}
}

// P8.7
func TestKindCases(t *testing.T) {
	for k, x := range []struct {
		from       []int
		conditions int
		want       int
	}{
		{[]int{0}, 1, law.KindChange}, {[]int{-1}, 1, law.KindOther}, {[]int{0, 1}, 2, law.KindChange}, {[]int{1, 0}, 2, law.KindOrder},
		{[]int{0, 0}, 2, law.KindOther}, {[]int{1, 1}, 2, law.KindOther}, {[]int{-1, 0}, 2, law.KindOther}, {[]int{0, -1}, 2, law.KindOther},
		{[]int{2, 0, 1}, 3, law.KindOrder}, {[]int{0, 2, 1}, 3, law.KindOrder}, {[]int{0, 2, 2}, 3, law.KindOther}, {[]int{3, 2, 1, 0}, 4, law.KindOrder},
		{nil, 1, law.KindLoss}, {[]int{1, 0}, 3, law.KindLoss}, {[]int{0, 1, 0}, 2, law.KindGrowth}, {[]int{-1}, 0, law.KindGrowth}, {[]int{-1, -1, -1, -1, -1, -1}, 4, law.KindGrowth},
	} {
		l := api.Law{Name: "x", If: make([]api.Sound, x.conditions), Mode: api.ModeAll}
		for _, from := range x.from {
			l.Out = append(l.Out, keep(from))
		}
		for _, mode := range modes {
			if kind, e := law.Kind(in(l, mode)); kind != x.want || e != api.OK {
				t.Error(k, kind, e)
			}
		}
		// What is done to the sounds does not matter.
		if x.conditions > 0 {
			for i := range l.Out {
				l.Out[i].Set, l.Out[i].Take, l.Out[i].Of = voiced, 2, x.conditions-1
			}
			l.Left, l.Right = vowel, end
			if kind, e := law.Kind(l); kind != x.want || e != api.OK {
				t.Error(k, kind, e)
			}
		}
	}
}

// manifold is a law with something in each field.
func manifold() api.Law {
	return api.Law{
		Name: "many", Left: seq(begin, rep(0, 3, vowel)), Right: alt(stop, end), If: list(isStop, isVowel),
		Out: []api.Out{{From: 0, Clear: 1, Set: api.Sound{Plus: 2, Minus: 4}, Take: 8, Of: 1}, keep(1)}, Mode: api.ModeRight,
	}
}

// checkEqual checks Equal, in both directions.
func checkEqual(t *testing.T, x, y api.Law, want bool) {
	t.Helper()
	if law.Equal(x, y) != want || law.Equal(y, x) != want {
		t.Error(x, y, !want)
	}
}

// P8.7: laws that differ in one field.
func TestEqual(t *testing.T) {
	checkEqual(t, manifold(), manifold(), true)
	for _, change := range []func(l *api.Law){
		func(l *api.Law) { l.Name = "Many" },
		func(l *api.Law) { l.Name = "" },
		func(l *api.Law) { l.Left = empty },
		func(l *api.Law) { l.Left.L[1].Max = 4 },
		func(l *api.Law) { l.Left, l.Right = l.Right, l.Left },
		func(l *api.Law) { l.Right = seq(l.Right.L...) },
		func(l *api.Law) { l.Right.L[0].Not = true },
		func(l *api.Law) { l.If = nil },
		func(l *api.Law) { l.If = l.If[:1] },
		func(l *api.Law) { l.If = append(l.If, zero) },
		func(l *api.Law) { l.If[0], l.If[1] = l.If[1], l.If[0] },
		func(l *api.Law) { l.If[0].Plus = 1 },
		func(l *api.Law) { l.If[1].Minus = 1 },
		func(l *api.Law) { l.Out = nil },
		func(l *api.Law) { l.Out = l.Out[:1] },
		func(l *api.Law) { l.Out = append(l.Out, api.Out{}) },
		func(l *api.Law) { l.Out[0], l.Out[1] = l.Out[1], l.Out[0] },
		func(l *api.Law) { l.Out[0].From = 1 },
		func(l *api.Law) { l.Out[0].Clear = 0 },
		func(l *api.Law) { l.Out[0].Set.Plus = 0 },
		func(l *api.Law) { l.Out[0].Set.Minus = 0 },
		func(l *api.Law) { l.Out[0].Take = 16 },
		func(l *api.Law) { l.Out[0].Of = 0 },
		func(l *api.Law) { l.Out[1].From = -1 },
		func(l *api.Law) { l.Out[1].Of = 1 },
		func(l *api.Law) { l.Mode = api.ModeLeft },
		func(l *api.Law) { l.Mode = 0 },
	} {
		l := manifold()
		change(&l)
		checkEqual(t, manifold(), l, false)
		m := manifold()
		change(&m)
		checkEqual(t, l, m, true)
	}
	checkEqual(t, lawV(), lawF(), false)
	checkEqual(t, lawE(), lawE(), true)
}

// P8.7: laws that are not valid.
func TestEqualInvalid(t *testing.T) {
	for _, change := range []func(l *api.Law){
		func(l *api.Law) { *l = api.Law{} },
		func(l *api.Law) { l.Name = "no name at all, and much too long" },
		func(l *api.Law) { l.If, l.Out = nil, nil },
		func(l *api.Law) { l.If = slices.Repeat(invalid(), 20) },
		func(l *api.Law) {
			l.Out = slices.Repeat([]api.Out{{From: 99, Clear: 1 << 31, Set: invalid()[0], Take: 1 << 31, Of: -7}}, 20)
		},
		func(l *api.Law) { l.Mode = -1 << 63 },
	} {
		l, m := manifold(), manifold()
		change(&l)
		change(&m)
		checkEqual(t, l, m, true)
		checkEqual(t, l, manifold(), false)
	}
	inItself := make([]api.Pat, 1)
	inItself[0] = seq()
	inItself[0].L = inItself
	for _, q := range []api.Pat{{Kind: 7}, {Min: 1}, rep(0, -1), sound(invalid()[0]), broad(41), seq(vowel, api.Pat{Kind: -1}), inItself[0]} {
		l, m := manifold(), manifold()
		l.Left, m.Right = q, q
		checkEqual(t, l, l, false)
		checkEqual(t, m, m, false)
		checkEqual(t, l, m, false)
		checkEqual(t, l, manifold(), false)
		checkEqual(t, m, manifold(), false)
	}
	// A nil list is the same as an empty one, and what is behind the end of a list does not matter.
	l, m := manifold(), manifold()
	l.If, m.If = nil, append(m.If, p)[:0]
	l.Out, m.Out = []api.Out{}, nil
	l.Left, m.Left = seq(), api.Pat{Kind: api.PatSeq, L: []api.Pat{}}
	checkEqual(t, l, m, true)
}

// P8.8
func TestProperties(t *testing.T) {
	r := rand.New(rand.NewSource(4))
	for k := range 6000 {
		l, w := randomLaw(r, 1+k%8), randomWord(r, r.Intn(14))
		hits, _ := law.Hits(l, w)
		places, after, e := law.Trace(l, w)
		if e != api.OK {
			continue
		}
		last, _ := law.Apply(l, w)
		if len(hits) == 0 && (!slices.Equal(last, w) || len(places) > 0) {
			t.Fatal("no place is hit", l, w, last)
		}
		if len(last) != len(w)+len(places)*(len(l.Out)-len(l.If)) {
			t.Fatal("the number of sounds", l, w, last)
		}
		for m, v := range after {
			if len(v) != len(w)+(m+1)*(len(l.Out)-len(l.If)) {
				t.Fatal("the number of sounds after some replacements", l, w, v)
			}
		}
		if l.Mode != api.ModeAll {
			checkMirror(t, l, w, last, places)
		}
	}
}

// checkMirror checks that the mirror image of a law does the same backwards.
func checkMirror(t *testing.T, l api.Law, w, last api.Word, places []int) {
	t.Helper()
	m := mirror(l)
	if v, e := law.Apply(m, backwards(w)); !slices.Equal(v, backwards(last)) || e != api.OK {
		t.Fatal("the mirror image", l, w, v, last)
	}
	opposite, _, e := law.Trace(m, backwards(w))
	if len(opposite) != len(places) || e != api.OK {
		t.Fatal("the mirror image", l, w, opposite, places)
	}
	for k, i := range places {
		before := len(w) + k*(len(l.Out)-len(l.If))
		if opposite[k] != before-len(l.If)-i {
			t.Fatal("the places of the mirror image", l, w, opposite, places)
		}
	}
}

// P8.8: each sound by itself.
func TestEachSound(t *testing.T) {
	r := rand.New(rand.NewSource(5))
	for range 1000 {
		l := randomLaw(r, 1)
		l.Left, l.Right, l.Mode = empty, empty, api.ModeAll
		l.If, l.Out = list(list(zero, isVowel, p, voiced)[r.Intn(4)]), nil
		for range r.Intn(4) {
			l.Out = append(l.Out, randomOut(r, 1))
		}
		w := randomWord(r, r.Intn(9))
		var want api.Word
		for _, s := range w {
			v, e := law.Apply(l, api.Word{s})
			if e != api.OK {
				t.Fatal(l, s, e)
			}
			want = append(want, v...)
		}
		if v, e := law.Apply(l, w); !slices.Equal(v, want) || e != api.OK {
			t.Fatal(l, w, v, e)
		}
	}
}

// roomy returns a law whose lists have something behind their ends.
func roomy() (api.Law, func() bool) {
	conds := list(isVowel, b, b)
	outs := []api.Out{keep(0), set(0, voiced), {From: 77}, {From: 78}}
	nodes := []api.Pat{alt(begin, vowel, stop), {Kind: 77}, {Kind: 78}}
	l := api.Law{Name: "x", Left: api.Pat{Kind: api.PatSeq, L: nodes[:1]}, Right: api.Pat{Kind: api.PatAlt, L: nodes[:1]}, If: conds[:1], Out: outs[:2], Mode: api.ModeAll}
	return l, func() bool {
		return slices.Equal(conds, list(isVowel, b, b)) && slices.Equal(outs, []api.Out{keep(0), set(0, voiced), {From: 77}, {From: 78}}) &&
			nodes[1].Kind == 77 && nodes[2].Kind == 78 && len(nodes[0].L) == 3 && nodes[0].L[2].Is == isStop
	}
}

// R4, for all of P8.1 to P8.7: arguments stay as they are, and results are new.
func TestMemory(t *testing.T) {
	for _, mode := range modes {
		l, stays := roomy()
		l.Mode = mode
		sounds := append(read("papa"), b, b, b)
		w := sounds[:4]
		want := read("paapaa")
		unchanged := func() bool { return stays() && slices.Equal(sounds, append(read("papa"), b, b, b)) }
		wipe := func(v api.Word) {
			v = v[:cap(v)]
			clear(v)
		}
		l.Right = empty
		if law.Check(l) != api.OK || !law.Equal(l, l) {
			t.Error(mode, "what is behind the end of a list is read")
		}
		law.Kind(l)
		x, e := law.Apply(l, w)
		if !slices.Equal(x, want) || e != api.OK {
			t.Error(mode, x, e)
		}
		y, _ := law.Apply(l, w)
		wipe(x)
		z, _, _ := law.Settle(l, w, 0)
		wipe(z)
		z, _, _ = law.Settle(l, w, 1)
		wipe(z)
		once, _ := law.Once(l, w, 1)
		wipe(once)
		hits, _ := law.Hits(l, w)
		clear(hits[:cap(hits)])
		law.Changes(l, w)
		places, after, _ := law.Trace(l, w)
		clear(places[:cap(places)])
		wipe(after[0])
		if !slices.Equal(after[1], want) || !slices.Equal(y, want) {
			t.Error(mode, "results share memory")
		}
		wipe(after[1])
		if !unchanged() {
			t.Error(mode, "an argument was changed", l, sounds)
		}
		// A word that a law leaves as it is, is a new one, too.
		l.If[0] = api.Sound{Plus: 1 << 20}
		for _, v := range []api.Word{first(law.Apply(l, w)), first2(law.Settle(l, w, 0)), first2(law.Settle(l, w, 100))} {
			if !slices.Equal(v, w) {
				t.Error(mode, v)
			}
			wipe(v)
		}
		if !slices.Equal(sounds, append(read("papa"), b, b, b)) {
			t.Error(mode, "a result shares memory with an argument", sounds)
		}
		// Later changes of an argument do not change a result.
		v := first(law.Apply(l, w))
		clear(w)
		if !slices.Equal(v, read("papa")) {
			t.Error(mode, "a result shares memory with an argument", v)
		}
	}
}

// R4: a word that is a part of the argument is a new one, too.
func TestMemoryOfParts(t *testing.T) {
	for _, mode := range modes {
		behind := api.Law{Name: "x", Left: stop, If: list(isVowel), Right: end, Mode: mode}
		before := api.Law{Name: "x", Left: begin, If: list(isStop), Right: vowel, Mode: mode}
		w := read("papa")
		for at, l := range map[int]api.Law{3: behind, 0: before} {
			_, after, _ := law.Trace(l, w)
			for k, v := range append(after, first(law.Apply(l, w)), first(law.Once(l, w, at)), first2(law.Settle(l, w, 1))) {
				if len(v) != 3 {
					t.Error(mode, at, k, v)
				}
				clear(v[:cap(v)])
				if !slices.Equal(w, read("papa")) {
					t.Fatal(mode, at, k, "a result shares memory with an argument", w)
				}
			}
		}
	}
}

func first(w api.Word, _ api.Errno) api.Word { return w }

func first2(w api.Word, _ int, _ api.Errno) api.Word { return w }

// The chapter's examples.
func TestExamples(t *testing.T) {
	if l, e := law.Hits(lawV(), read("apapa")); !slices.Equal(l, []int{1, 3}) || e != api.OK {
		t.Error(l, e)
	}
	for _, x := range []struct {
		l       api.Law
		w, want string
	}{
		{lawV(), "apapa", "ababa"}, {lawV(), "pap", "pap"}, {lawF(), "apa", "ap"}, {lawE(), "pa", "apa"},
		{api.Law{Name: "F", If: list(isVowel), Mode: api.ModeAll}, "aa", ""},
		{api.Law{Name: "F", If: list(isVowel), Mode: api.ModeRight}, "aa", ""},
		{api.Law{Name: "F", If: list(isVowel), Mode: api.ModeLeft}, "aa", ""},
	} {
		if v, e := law.Apply(x.l, read(x.w)); !slices.Equal(v, read(x.want)) || e != api.OK {
			t.Error(x, v, e)
		}
	}
	if v, e := law.Once(lawF(), read("apa"), 0); len(v) > 0 || e != api.ErrNone {
		t.Error(v, e)
	}
	if v, e := law.Once(lawF(), read("apa"), 4); len(v) > 0 || e != api.ErrRange {
		t.Error(v, e)
	}
	if v, n, e := law.Settle(lawE(), read("pa"), 3); !slices.Equal(v, read("aaapa")) || n != 3 || e != api.OK {
		t.Error(v, n, e)
	}
	if l, words, e := law.Trace(lawV(), read("apapa")); !slices.Equal(l, []int{1, 3}) || !same(words, []api.Word{read("abapa"), read("ababa")}) || e != api.OK {
		t.Error(l, words, e)
	}
	for i, l := range []api.Law{lawV(), lawF(), lawE()} {
		if n, e := law.Kind(l); n != []int{law.KindChange, law.KindLoss, law.KindGrowth}[i] || e != api.OK {
			t.Error(i, n, e)
		}
	}
	if law.KindChange != 1 || law.KindLoss != 2 || law.KindGrowth != 3 || law.KindOrder != 4 || law.KindOther != 5 {
		t.Error("the numbers of the kinds")
	}
}
