package pats_test

import (
	"math"
	"math/rand"
	"reflect"
	"slices"
	"testing"

	"ablaut/api"
	"ablaut/pats"
)

// compare compares all answers about a pattern and a word with the model.
func compare(t *testing.T, q api.Pat, w api.Word) {
	t.Helper()
	m := newModel(w)
	for place := range len(w) + 1 {
		if l, e := pats.Ends(q, w, place); !slices.Equal(l, m.ends(&q, place)) || e != api.OK {
			t.Fatal("Ends", q, w, place, l, e, m.ends(&q, place))
		}
		if l, e := pats.Begins(q, w, place); !slices.Equal(l, m.begins(&q, place)) || e != api.OK {
			t.Fatal("Begins", q, w, place, l, e, m.begins(&q, place))
		}
		x, y, found := m.find(&q, place)
		if c, d, ok, e := pats.Find(q, w, place); c != x || d != y || ok != found || e != api.OK {
			t.Fatal("Find", q, w, place, c, d, ok, e, x, y, found)
		}
	}
	if ok, e := pats.Matches(q, w); ok != m.matches(&q, 0, len(w)) || e != api.OK {
		t.Fatal("Matches", q, w, ok, e)
	}
}

// checkError checks the error of all functions for a pattern, a word and a place, and the zero values beside it.
func checkError(t *testing.T, q api.Pat, w api.Word, place int, want api.Errno) {
	t.Helper()
	if l, e := pats.Ends(q, w, place); len(l) > 0 || e != want {
		t.Error("Ends", w, place, l, e, want)
	}
	if l, e := pats.Begins(q, w, place); len(l) > 0 || e != want {
		t.Error("Begins", w, place, l, e, want)
	}
	if x, y, ok, e := pats.Find(q, w, place); x != 0 || y != 0 || ok || e != want {
		t.Error("Find", w, place, x, y, ok, e, want)
	}
	if want == api.ErrRange {
		return
	}
	if ok, e := pats.Matches(q, w); ok || e != want {
		t.Error("Matches", w, ok, e, want)
	}
}

// checkBad checks what all functions say to a pattern that is not valid.
func checkBad(t *testing.T, q api.Pat, want api.Errno) {
	t.Helper()
	if e := pats.Check(q); e != want {
		t.Error("Check", e, want)
	}
	for _, w := range []api.Word{nil, read("pap"), make(api.Word, 33), {{Plus: 1, Minus: 1}}} {
		for _, place := range []int{0, 1, -1, 4, 34} {
			checkError(t, q, w, place, want)
		}
	}
	if m, e := pats.Mirror(q); !reflect.DeepEqual(m, api.Pat{}) || e != want {
		t.Error("Mirror", m, e, want)
	}
	if pats.Empty(q) {
		t.Error("Empty", want)
	}
	if pats.Equal(q, q) || pats.Equal(q, empty) || pats.Equal(empty, q) {
		t.Error("Equal", want)
	}
}

// checkGood checks that a pattern is valid.
func checkGood(t *testing.T, q api.Pat) {
	t.Helper()
	if e := pats.Check(q); e != api.OK {
		t.Error("Check", q, e)
	}
	if _, e := pats.Mirror(q); e != api.OK {
		t.Error("Mirror", q, e)
	}
	if !pats.Equal(q, q) {
		t.Error("Equal", q)
	}
}

// P6.1
func TestCheckKinds(t *testing.T) {
	for _, q := range []api.Pat{{}, empty, begin, end, vowel, other, sound(zero), but(zero), seq(), alt(), seq(vowel), alt(vowel, other), rep(0, 0, vowel), rep(3, 7, seq())} {
		checkGood(t, q)
	}
	for _, kind := range []int{-1, 7, 8, 32, 1 << 32, math.MaxInt, math.MinInt, math.MinInt + 1} {
		checkBad(t, api.Pat{Kind: kind}, api.ErrArg)
		checkBad(t, api.Pat{Kind: kind, L: []api.Pat{vowel}}, api.ErrArg)
		checkBad(t, seq(vowel, rep(0, -1, api.Pat{Kind: kind})), api.ErrArg)
	}
}

// P6.1: nodes with something that they do not use.
func TestCheckUnused(t *testing.T) {
	is := func(s api.Sound) func(*api.Pat) { return func(q *api.Pat) { q.Is = s } }
	not := func(q *api.Pat) { q.Not = true }
	least := func(n int) func(*api.Pat) { return func(q *api.Pat) { q.Min = n } }
	most := func(n int) func(*api.Pat) { return func(q *api.Pat) { q.Max = n } }
	elements := func(l ...api.Pat) func(*api.Pat) { return func(q *api.Pat) { q.L = l } }
	sounds := []func(*api.Pat){is(p), is(api.Sound{Plus: 1}), is(api.Sound{Minus: 1 << 23}), is(api.Sound{Plus: 1, Minus: 1}), is(api.Sound{Plus: 1 << 24}), is(api.Sound{Minus: 1 << 31}), not}
	times := []func(*api.Pat){least(1), least(-1), least(32), least(1 << 32), least(math.MinInt), most(1), most(-1), most(33), most(1 << 32), most(math.MaxInt)}
	lists := []func(*api.Pat){elements(empty), elements(vowel), elements(empty, empty), elements(slices.Repeat([]api.Pat{empty}, 60)...), elements(api.Pat{Kind: -1})}
	for _, x := range []struct {
		q      api.Pat
		unused []func(*api.Pat)
	}{
		{empty, slices.Concat(sounds, times, lists)},
		{begin, slices.Concat(sounds, times, lists)},
		{end, slices.Concat(sounds, times, lists)},
		{vowel, slices.Concat(times, lists)},
		{other, slices.Concat(times, lists)},
		{but(api.Sound{Plus: 1, Minus: 1}), slices.Concat(times, lists)},
		{seq(), slices.Concat(sounds, times)},
		{seq(vowel, end), slices.Concat(sounds, times)},
		{alt(), slices.Concat(sounds, times)},
		{alt(begin, vowel), slices.Concat(sounds, times)},
		{rep(0, -1, vowel), sounds},
		{rep(0, 0, vowel), sounds},
	} {
		for _, set := range x.unused {
			q := x.q
			set(&q)
			checkBad(t, q, api.ErrArg)
			checkBad(t, alt(seq(begin, q), end), api.ErrArg)
		}
	}
	// What is empty is not something: it may have room behind it.
	for _, q := range []api.Pat{empty, begin, end, vowel} {
		q.L = make([]api.Pat, 0, 3)
		checkGood(t, q)
		checkGood(t, rep(1, 1, q))
	}
}

// P6.1
func TestCheckSounds(t *testing.T) {
	for _, s := range invalid() {
		checkBad(t, sound(s), api.ErrSound)
		checkBad(t, but(s), api.ErrSound)
		checkBad(t, seq(vowel, alt(rep(2, 3, sound(s)))), api.ErrSound)
	}
	for _, s := range []api.Sound{p, {Plus: 1 << 23}, {Minus: 1 << 23}, {Plus: 1<<24 - 1}, {Minus: 1<<24 - 1}, {Plus: 1<<23 - 1, Minus: 1 << 23}} {
		checkGood(t, sound(s))
		checkGood(t, but(s))
	}
}

// P6.1
func TestCheckRepetitions(t *testing.T) {
	checkBad(t, rep(0, -1), api.ErrArg)
	checkBad(t, rep(0, 0), api.ErrArg)
	checkBad(t, rep(0, -1, vowel, vowel), api.ErrArg)
	checkBad(t, rep(1, 2, empty, empty, empty), api.ErrArg)
	numbers := []int{math.MinInt, -1 << 32, -33, -2, -1, 0, 1, 2, 15, 31, 32, 33, 34, 64, 1 << 32, 1<<32 + 1, math.MaxInt}
	for _, least := range numbers {
		for _, most := range numbers {
			q := rep(least, most, vowel)
			if 0 <= least && least <= 32 && (most == -1 || least <= most && most <= 32) {
				checkGood(t, q)
			} else {
				checkBad(t, q, api.ErrArg)
			}
		}
	}
}

// P6.1
func TestManyNodes(t *testing.T) {
	for _, n := range []int{38, 39, 40} {
		for _, q := range []api.Pat{deep(n, vowel), deep(n, seq()), broad(n, empty), broad(n, other), seq(deep(n/2, end), broad(n-n/2-1, vowel))} {
			checkGood(t, q)
			if size := pats.Size(q); size != n {
				t.Error("Size", n, size)
			}
		}
	}
	for _, n := range []int{41, 42, 50, 100, 1000} {
		for _, q := range []api.Pat{deep(n, vowel), deep(n, alt()), broad(n, empty), broad(n, other), seq(deep(n/2, end), broad(n-n/2-1, vowel))} {
			checkBad(t, q, api.ErrMany)
			if size := pats.Size(q); size != 41 {
				t.Error("Size", n, size)
			}
		}
	}
	// These have no end, or none that could be waited for.
	for _, q := range []api.Pat{inItself(api.PatSeq), inItself(api.PatAlt), alt(vowel, inItself(api.PatSeq)), doubled(6), doubled(60), broad(1<<20, vowel)} {
		checkBad(t, q, api.ErrMany)
		if size := pats.Size(q); size != 41 {
			t.Error("Size", size)
		}
	}
	checkGood(t, doubled(4))
	checkBad(t, doubled(5), api.ErrMany)
	checkBad(t, inItself(api.PatEmpty), api.ErrArg)
	checkBad(t, inItself(api.PatRep), api.ErrMany)
}

// P6.1: of several errors, the first one in the order of the nodes.
func TestFirstError(t *testing.T) {
	badArg, badSound := api.Pat{Kind: 7}, sound(api.Sound{Plus: 1, Minus: 1})
	for k, x := range []struct {
		q    api.Pat
		want api.Errno
	}{
		{seq(badArg, badSound), api.ErrArg},
		{seq(badSound, badArg), api.ErrSound},
		{seq(vowel, seq(seq(badSound)), badArg), api.ErrSound},
		{seq(vowel, seq(seq(badArg)), badSound), api.ErrArg},
		{rep(2, 1, badSound), api.ErrArg},
		{rep(1, 2, badSound, vowel), api.ErrArg},
		{api.Pat{Kind: api.PatSound, Is: api.Sound{Plus: 1, Minus: 1}, L: []api.Pat{badArg}}, api.ErrArg},
		{api.Pat{Kind: api.PatSound, Is: api.Sound{Plus: 1, Minus: 1}, Min: 1}, api.ErrArg},
		{api.Pat{Kind: api.PatSound, Is: api.Sound{Plus: 1, Minus: 1}, Max: -1}, api.ErrArg},
		{api.Pat{Kind: api.PatSeq, Is: api.Sound{Plus: 1, Minus: 1}, L: []api.Pat{badSound}}, api.ErrArg},
		{seq(broad(38, vowel), badSound), api.ErrSound},
		{seq(broad(39, vowel), badSound), api.ErrMany},
		{seq(broad(38, vowel), badArg), api.ErrArg},
		{seq(broad(39, vowel), badArg), api.ErrMany},
		{deep(40, badArg), api.ErrArg},
		{deep(41, badArg), api.ErrMany},
		{deep(40, badSound), api.ErrSound},
		{deep(41, badSound), api.ErrMany},
		{seq(badArg, broad(60, vowel)), api.ErrArg},
		{seq(badSound, broad(60, vowel)), api.ErrSound},
		{seq(broad(60, vowel), badArg), api.ErrMany},
		{seq(broad(20, vowel), deep(20, vowel), badSound, broad(60, badArg)), api.ErrMany},
		{seq(broad(20, vowel), deep(18, vowel), badSound, broad(60, badArg)), api.ErrSound},
		{rep(0, 1, broad(60, vowel), vowel), api.ErrArg},
	} {
		t.Log(k)
		checkBad(t, x.q, x.want)
	}
}

// P6.1, and P1: whatever a pattern is, it is examined as the document says.
func TestWildPatterns(t *testing.T) {
	r := rand.New(rand.NewSource(61))
	seen := map[api.Errno]int{}
	for range 30000 {
		q := wild(r, r.Intn(3))
		want := modelCheck(q)
		seen[want]++
		if size := pats.Size(q); size != min(len(list(q)), 41) {
			t.Fatal("Size", q, size)
		}
		if want == api.OK {
			checkGood(t, q)
		} else {
			checkBad(t, q, want)
		}
	}
	if seen[api.OK] < 100 || seen[api.ErrArg] < 100 || seen[api.ErrSound] < 20 {
		t.Error("too few of a kind", seen)
	}
	for range 3000 {
		q := random(r, 1+r.Intn(50))
		if r.Intn(2) == 0 {
			left := r.Intn(40)
			change(&q, func(n *api.Pat) {
				if left--; left == 0 {
					*n = wild(r, 1)
				}
			})
		}
		if e := pats.Check(q); e != modelCheck(q) {
			t.Fatal("Check", q, e, modelCheck(q))
		}
		if size := pats.Size(q); size != min(len(list(q)), 41) {
			t.Fatal("Size", q, size)
		}
	}
}

// P6.1: a pattern has its nodes, valid or not.
func TestSize(t *testing.T) {
	for k, x := range []struct {
		q    api.Pat
		want int
	}{
		{empty, 1}, {api.Pat{Kind: -5}, 1}, {seq(), 1}, {alt(vowel), 2}, {rep(0, -1, vowel), 2}, {rep(9, 1), 1}, {rep(9, 1, vowel, empty, end), 4},
		{seq(vowel, alt(begin, seq(end)), other), 7}, {api.Pat{Kind: api.PatEnd, L: []api.Pat{vowel, seq(vowel)}}, 4}, {sound(api.Sound{Plus: 1, Minus: 1}), 1},
		{broad(40, api.Pat{Kind: 7}), 40}, {broad(41, api.Pat{Kind: 7}), 41}, {broad(42, api.Pat{Kind: 7}), 41},
	} {
		if size := pats.Size(x.q); size != x.want {
			t.Error(k, size, x.want)
		}
	}
}

// P6.2, P6.3, P6.4: all patterns of up to three nodes, in all words of up to three sounds.
func TestSmallPatterns(t *testing.T) {
	for n := 1; n <= 3; n++ {
		for _, q := range small(n) {
			for _, w := range words(3, p, a) {
				compare(t, q, w)
			}
		}
	}
}

// P6.2, P6.3, P6.4
func TestRandomPatterns(t *testing.T) {
	r := rand.New(rand.NewSource(62))
	for range 8000 {
		compare(t, random(r, 1+r.Intn(12)), randomWord(r, r.Intn(8)))
	}
	for range 300 {
		compare(t, random(r, 20+r.Intn(21)), randomWord(r, r.Intn(11)))
	}
	for range 15 {
		compare(t, random(r, 10), randomWord(r, 30+r.Intn(3)))
	}
}

// P6.2
func TestEndsAndBegins(t *testing.T) {
	for k, x := range []struct {
		q            api.Pat
		text         string
		place        int
		ends, begins []int
	}{
		{vowel, "apa", 0, []int{1}, nil},
		{vowel, "apa", 1, nil, []int{0}},
		{vowel, "apa", 3, nil, []int{2}},
		{other, "apa", 1, []int{2}, nil},
		{rep(0, -1, other), "ppa", 0, []int{0, 1, 2}, []int{0}},
		{rep(0, -1, other), "ppa", 2, []int{2}, []int{0, 1, 2}},
		{rep(0, -1, other), "ppa", 3, []int{3}, []int{3}},
		{rep(1, -1, other), "ppa", 0, []int{1, 2}, nil},
		{empty, "", 0, []int{0}, []int{0}},
		{begin, "", 0, []int{0}, []int{0}},
		{end, "", 0, []int{0}, []int{0}},
		{seq(begin, end), "", 0, []int{0}, []int{0}},
		{seq(end, begin), "", 0, []int{0}, []int{0}},
		{seq(begin, end), "a", 0, nil, nil},
		{vowel, "", 0, nil, nil},
		{seq(), "", 0, []int{0}, []int{0}},
		{alt(), "", 0, nil, nil},
		{begin, "ap", 1, nil, nil},
		{end, "ap", 1, nil, nil},
		{begin, "ap", 0, []int{0}, []int{0}},
		{end, "ap", 0, nil, nil},
		{begin, "ap", 2, nil, nil},
		{end, "ap", 2, []int{2}, []int{2}},
		{seq(vowel, begin, other), "ap", 0, nil, nil},
		{seq(vowel, end, other), "ap", 0, nil, nil},
		{seq(vowel, end), "aa", 0, nil, nil},
		{seq(vowel, end), "aa", 1, []int{2}, nil},
		{seq(vowel, end), "aa", 2, nil, []int{1}},
		{seq(begin, vowel), "aa", 1, nil, []int{0}},
		{alt(begin, vowel), "aa", 0, []int{0, 1}, []int{0}},
		{alt(vowel, seq(vowel, vowel), empty), "aaa", 0, []int{0, 1, 2}, []int{0}},
		{alt(vowel, seq(vowel, vowel), empty), "aaa", 3, []int{3}, []int{1, 2, 3}},
		{rep(0, -1, begin), "a", 0, []int{0}, []int{0}},
		{rep(0, -1, begin), "a", 1, []int{1}, []int{1}},
		{rep(1, -1, begin), "a", 1, nil, nil},
		{rep(32, 32, end), "a", 1, []int{1}, []int{1}},
		{rep(0, 0, vowel), "aa", 0, []int{0}, []int{0}},
		{rep(0, 0, alt()), "aa", 1, []int{1}, []int{1}},
		{rep(1, 1, alt()), "aa", 1, nil, nil},
		{rep(0, -1, alt()), "aa", 1, []int{1}, []int{1}},
		{rep(2, 2, vowel), "aaaa", 1, []int{3}, nil},
		{rep(5, -1, vowel), "aaaa", 0, nil, nil},
		{rep(0, 32, vowel), "aaaa", 0, []int{0, 1, 2, 3, 4}, []int{0}},
		{rep(32, -1, alt(vowel, empty)), "aaa", 0, []int{0, 1, 2, 3}, []int{0}},
		{rep(2, 2, alt(seq(vowel, vowel), other)), "aapaa", 0, []int{3}, nil},
		{rep(2, 2, alt(seq(vowel, vowel), other)), "aapaa", 5, nil, []int{2}},
	} {
		w := read(x.text)
		if l, e := pats.Ends(x.q, w, x.place); !slices.Equal(l, x.ends) || e != api.OK {
			t.Error(k, "Ends", l, e)
		}
		if l, e := pats.Begins(x.q, w, x.place); !slices.Equal(l, x.begins) || e != api.OK {
			t.Error(k, "Begins", l, e)
		}
	}
}

// P6.2: what a sound must have, in each feature.
func TestSounds(t *testing.T) {
	var sounds []api.Sound
	for _, f := range []int{0, 1, 11, 22, 23} {
		for _, g := range []int{0, 12, 23} {
			sounds = append(sounds, api.Sound{Plus: 1 << f}, api.Sound{Minus: 1 << f})
			if f != g {
				sounds = append(sounds, api.Sound{Plus: 1<<f | 1<<g}, api.Sound{Plus: 1 << f, Minus: 1 << g})
			}
		}
	}
	for _, s := range append(sounds, zero, p, b, a) {
		for _, is := range append(sounds, zero, p, b, a) {
			compare(t, sound(is), api.Word{s})
			compare(t, but(is), api.Word{s})
		}
		if ok, e := pats.Matches(sound(zero), api.Word{s}); !ok || e != api.OK {
			t.Error("every sound satisfies what asks for nothing", s, e)
		}
		if ok, e := pats.Matches(but(zero), api.Word{s}); ok || e != api.OK {
			t.Error("no sound does not satisfy what asks for nothing", s, e)
		}
	}
}

// P6.2, P6.3, P6.4: words with as many sounds as there may be.
func TestLongWords(t *testing.T) {
	w := slices.Repeat(api.Word{a}, 32)
	upTo := func(a, b int) []int {
		var l []int
		for ; a <= b; a++ {
			l = append(l, a)
		}
		return l
	}
	for k, x := range []struct {
		q       api.Pat
		ends    []int
		matches bool
	}{
		{rep(0, -1, vowel), upTo(0, 32), true},
		{rep(0, 31, vowel), upTo(0, 31), false},
		{rep(0, 32, vowel), upTo(0, 32), true},
		{rep(32, 32, vowel), []int{32}, true},
		{rep(31, 31, vowel), []int{31}, false},
		{rep(32, -1, vowel), []int{32}, true},
		{rep(31, -1, vowel), []int{31, 32}, true},
		{rep(16, 16, seq(vowel, vowel)), []int{32}, true},
		{rep(17, -1, seq(vowel, vowel)), nil, false},
		{rep(0, -1, seq(vowel, vowel, vowel)), []int{0, 3, 6, 9, 12, 15, 18, 21, 24, 27, 30}, false},
		{seq(rep(32, 32, vowel), vowel), nil, false},
		{seq(rep(32, 32, vowel), end), []int{32}, true},
		{deep(39, rep(32, 32, vowel)), []int{32}, true},
		{broad(33, vowel), []int{32}, true},
		{broad(34, vowel), nil, false},
		{broad(20, rep(0, 1, vowel)), upTo(0, 19), false},
		{rep(32, 32, rep(32, 32, alt(vowel, empty))), upTo(0, 32), true},
	} {
		if l, e := pats.Ends(x.q, w, 0); !slices.Equal(l, x.ends) || e != api.OK {
			t.Error(k, "Ends", l, e)
		}
		if ok, e := pats.Matches(x.q, w); ok != x.matches || e != api.OK {
			t.Error(k, "Matches", ok, e)
		}
		if l, e := pats.Begins(x.q, w, 32); slices.Contains(l, 0) != x.matches || e != api.OK {
			t.Error(k, "Begins", l, e)
		}
	}
	for at := range 33 {
		if l, e := pats.Ends(rep(0, -1, vowel), w, at); !slices.Equal(l, upTo(at, 32)) || e != api.OK {
			t.Error("Ends", at, l, e)
		}
		if l, e := pats.Begins(rep(0, -1, vowel), w, at); !slices.Equal(l, upTo(0, at)) || e != api.OK {
			t.Error("Begins", at, l, e)
		}
	}
	if x, y, ok, e := pats.Find(end, w, 0); x != 32 || y != 32 || !ok || e != api.OK {
		t.Error("Find", x, y, ok, e)
	}
}

// P6.2, P6.4: the places before the first and behind the last one.
func TestPlaces(t *testing.T) {
	for _, n := range []int{0, 1, 3, 31, 32} {
		w := slices.Repeat(api.Word{a}, n)
		for _, q := range []api.Pat{empty, vowel, alt(), end, rep(0, -1, vowel)} {
			for _, place := range []int{-1, n + 1, -2, n + 2, 33, 34, 63, 64, 65, -64, -33, 1 << 32, -1 << 32, math.MaxInt, math.MinInt} {
				checkError(t, q, w, place, api.ErrRange)
			}
			for _, place := range []int{0, n} {
				if _, e := pats.Ends(q, w, place); e != api.OK {
					t.Error("Ends", n, place, e)
				}
				if _, e := pats.Begins(q, w, place); e != api.OK {
					t.Error("Begins", n, place, e)
				}
				if _, _, _, e := pats.Find(q, w, place); e != api.OK {
					t.Error("Find", n, place, e)
				}
			}
		}
	}
}

// P6.2, P6.3, P6.4: the errors of words come behind those of patterns and before those of places.
func TestBadWords(t *testing.T) {
	for _, q := range []api.Pat{empty, vowel, alt(), end} {
		for _, place := range []int{0, 1, -1, 33, 34, 100} {
			for _, n := range []int{33, 34, 100, 1000} {
				checkError(t, q, slices.Repeat(api.Word{a}, n), place, api.ErrLong)
				checkError(t, q, slices.Repeat(api.Word{{Plus: 1, Minus: 1}}, n), place, api.ErrLong)
			}
			for _, s := range invalid() {
				for _, w := range []api.Word{{s}, {s, a}, {a, s}, append(slices.Repeat(api.Word{a}, 31), s)} {
					checkError(t, q, w, place, api.ErrSound)
				}
			}
		}
	}
}

// P6.3
func TestMatches(t *testing.T) {
	for k, x := range []struct {
		q    api.Pat
		text string
		want bool
	}{
		{seq(other, vowel, other, vowel), "papa", true},
		{seq(other, vowel, other, vowel), "papap", false},
		{seq(other, vowel, other), "papa", false},
		{rep(2, 3, vowel), "aaaa", false},
		{rep(2, 3, vowel), "aaa", true},
		{rep(2, 3, vowel), "aa", true},
		{rep(2, 3, vowel), "a", false},
		{empty, "", true},
		{empty, "a", false},
		{seq(begin, rep(0, -1, alt(other, vowel)), end), "apba", true},
		{rep(0, -1, seq(other, vowel)), "papa", true},
		{rep(0, -1, seq(other, vowel)), "papap", false},
		{alt(), "", false},
		{begin, "", true},
		{end, "a", false},
		{rep(32, -1, vowel), "aaa", false},
		{rep(0, 32, vowel), "aaa", true},
		{rep(4, 4, vowel), "aaa", false},
	} {
		if ok, e := pats.Matches(x.q, read(x.text)); ok != x.want || e != api.OK {
			t.Error(k, ok, e)
		}
	}
}

// P6.4
func TestFind(t *testing.T) {
	for k, x := range []struct {
		q       api.Pat
		text    string
		from    int
		a, b    int
		matched bool
	}{
		{seq(vowel, end), "apa", 0, 2, 3, true},
		{vowel, "apa", 0, 0, 1, true},
		{vowel, "apa", 1, 2, 3, true},
		{vowel, "apa", 3, 0, 0, false},
		{vowel, "", 0, 0, 0, false},
		{empty, "", 0, 0, 0, true},
		{empty, "apa", 3, 3, 3, true},
		{begin, "apa", 0, 0, 0, true},
		{begin, "apa", 1, 0, 0, false},
		{end, "apa", 1, 3, 3, true},
		{rep(0, -1, vowel), "paaa", 0, 0, 0, true},
		{rep(1, -1, vowel), "paaa", 0, 1, 4, true},
		{rep(1, 2, vowel), "paaa", 0, 1, 3, true},
		{alt(seq(vowel, other, vowel), vowel), "apa", 0, 0, 3, true},
		{alt(vowel, seq(other, vowel, vowel)), "apaa", 0, 0, 1, true},
		{alt(), "apa", 0, 0, 0, false},
	} {
		if c, d, ok, e := pats.Find(x.q, read(x.text), x.from); c != x.a || d != x.b || ok != x.matched || e != api.OK {
			t.Error(k, c, d, ok, e)
		}
	}
}

// P6.5
func TestMirror(t *testing.T) {
	for k, x := range []struct{ q, want api.Pat }{
		{empty, empty},
		{begin, end},
		{end, begin},
		{vowel, vowel},
		{but(p), but(p)},
		{seq(), seq()},
		{alt(), alt()},
		{seq(begin, vowel), seq(vowel, end)},
		{alt(begin, vowel, end), alt(end, vowel, begin)},
		{seq(p1(), p2(), p3()), seq(p3(), p2(), p1())},
		{alt(p1(), p2(), p3()), alt(p1(), p2(), p3())},
		{rep(2, 5, seq(begin, p1(), p2())), rep(2, 5, seq(p2(), p1(), end))},
		{rep(32, -1, begin), rep(32, -1, end)},
		{seq(seq(p1(), p2()), alt(seq(p2(), end), p3())), seq(alt(seq(begin, p2()), p3()), seq(p2(), p1()))},
		{deep(40, begin), deep(40, end)},
		{broad(40, begin), broad(40, end)},
	} {
		if m, e := pats.Mirror(x.q); !reflect.DeepEqual(m, duplicate(x.want)) || e != api.OK {
			t.Error(k, m, e)
		}
	}
}

func p1() api.Pat { return sound(p) }
func p2() api.Pat { return but(b) }
func p3() api.Pat { return rep(0, 1, sound(a)) }

// P6.6
func TestEmpty(t *testing.T) {
	for k, x := range []struct {
		q    api.Pat
		want bool
	}{
		{empty, true}, {begin, false}, {end, false}, {vowel, false}, {other, false}, {sound(zero), false},
		{seq(), true}, {alt(), false}, {seq(empty, empty), true}, {seq(empty, begin), false}, {seq(empty, vowel), false},
		{alt(vowel, empty), true}, {alt(begin, end), false}, {alt(begin, rep(0, 1, end)), true},
		{rep(0, 1, vowel), true}, {rep(0, 0, vowel), true}, {rep(0, -1, vowel), true}, {rep(1, -1, vowel), false}, {rep(32, 32, empty), true},
		{rep(1, 1, begin), false}, {rep(0, 1, begin), true}, {rep(0, 0, alt()), true}, {rep(1, -1, alt(vowel, seq())), true},
		{deep(40, empty), true}, {broad(40, empty), true}, {deep(41, empty), false}, {broad(41, empty), false},
		{api.Pat{Kind: 7}, false}, {api.Pat{Min: 1}, false}, {rep(0, 1), false}, {rep(0, 1, sound(api.Sound{Plus: 1, Minus: 1})), false},
	} {
		if ok := pats.Empty(x.q); ok != x.want {
			t.Error(k, ok)
		}
	}
}

// P6.7
func TestEqual(t *testing.T) {
	full := seq(begin, sound(p), but(b), alt(rep(1, 3, vowel), seq(), empty), rep(2, -1, alt(other, end)))
	if !pats.Equal(full, full) || !pats.Equal(full, duplicate(full)) {
		t.Error("the same")
	}
	for i, n := range list(full) {
		for k, by := range changes(n) {
			changed, left := duplicate(full), i
			changeAt(&changed, &left, by)
			if pats.Check(changed) != api.OK || reflect.DeepEqual(changed, duplicate(full)) {
				t.Error("no valid change", i, k)
			}
			if pats.Equal(full, changed) || pats.Equal(changed, full) {
				t.Error("node", i, "change", k)
			}
		}
	}
	for k, x := range []struct {
		l, m api.Pat
		want bool
	}{
		{empty, api.Pat{}, true},
		{empty, api.Pat{L: []api.Pat{}}, true},
		{seq(), api.Pat{Kind: api.PatSeq, L: make([]api.Pat, 0, 4)}, true},
		{seq(), empty, false},
		{seq(), alt(), false},
		{seq(vowel), vowel, false},
		{seq(vowel, other), seq(other, vowel), false},
		{seq(vowel, seq(other)), seq(vowel, other), false},
		{seq(seq(vowel), other), seq(seq(vowel, other)), false},
		{rep(0, -1, vowel), rep(0, 32, vowel), false},
		{rep(1, 1, vowel), vowel, false},
		{broad(40, vowel), broad(40, vowel), true},
		{broad(40, vowel), broad(39, vowel), false},
		{broad(41, vowel), broad(41, vowel), false},
		{api.Pat{Kind: 9}, api.Pat{Kind: 9}, false},
	} {
		if ok := pats.Equal(x.l, x.m); ok != x.want {
			t.Error(k, ok)
		}
		if ok := pats.Equal(x.m, x.l); ok != x.want {
			t.Error(k, "the other way round", ok)
		}
	}
}

// changes are the changes of one value of a node after which it is valid.
func changes(n api.Pat) []func(*api.Pat) {
	kind := func(k int) func(*api.Pat) { return func(q *api.Pat) { q.Kind = k } }
	switch n.Kind {
	case api.PatEmpty:
		return []func(*api.Pat){kind(api.PatBegin), kind(api.PatEnd), kind(api.PatSound), kind(api.PatSeq), kind(api.PatAlt)}
	case api.PatBegin:
		return []func(*api.Pat){kind(api.PatEmpty), kind(api.PatEnd)}
	case api.PatEnd:
		return []func(*api.Pat){kind(api.PatEmpty), kind(api.PatBegin)}
	case api.PatSound:
		return []func(*api.Pat){
			func(q *api.Pat) { q.Not = !q.Not },
			func(q *api.Pat) { q.Is.Plus ^= 1 << 20 },
			func(q *api.Pat) { q.Is.Minus ^= 1 << 21 },
		}
	case api.PatRep:
		return []func(*api.Pat){
			func(q *api.Pat) { q.Min-- },
			func(q *api.Pat) { q.Max = 7 },
			func(q *api.Pat) { q.L[0] = seq(q.L[0]) },
		}
	}
	return []func(*api.Pat){
		kind(api.PatSeq + api.PatAlt - n.Kind),
		func(q *api.Pat) { q.L = append(q.L, empty) },
		func(q *api.Pat) { q.L = append([]api.Pat{empty}, q.L...) },
	}
}

// changeAt changes the node with some index.
func changeAt(q *api.Pat, left *int, by func(*api.Pat)) {
	*left--
	if *left == -1 {
		by(q)
		return
	}
	for i := range q.L {
		changeAt(&q.L[i], left, by)
	}
}

// P6.7: patterns are equal exactly if all of their nodes are.
func TestEqualPatterns(t *testing.T) {
	l := slices.Concat(small(1), small(2), small(3))
	for i, q := range l {
		for j, r := range l {
			if ok := pats.Equal(q, r); ok != (i == j) {
				t.Fatal(q, r, ok)
			}
		}
	}
}

// sample are patterns for the properties.
func sample(seed int64) []api.Pat {
	r := rand.New(rand.NewSource(seed))
	l := slices.Concat(small(1), small(2))
	for range 600 {
		l = append(l, random(r, 1+r.Intn(15)))
	}
	return l
}

func ends(t *testing.T, q api.Pat, w api.Word, at int) []int {
	t.Helper()
	l, e := pats.Ends(q, w, at)
	if e != api.OK {
		t.Fatal("Ends", q, w, at, e)
	}
	return l
}

// P6.8
func TestMirrorsMatchBackwards(t *testing.T) {
	r := rand.New(rand.NewSource(68))
	for _, q := range append(sample(68), deep(38, seq(begin, vowel)), broad(20, rep(0, 2, end))) {
		m, e := pats.Mirror(q)
		if e != api.OK || pats.Check(m) != api.OK {
			t.Fatal("Mirror", q, m, e)
		}
		if twice, e := pats.Mirror(m); !pats.Equal(twice, q) || e != api.OK {
			t.Fatal("the mirror of the mirror", q, twice, e)
		}
		for range 3 {
			w := randomWord(r, r.Intn(9))
			n := len(w)
			for x := range n + 1 {
				for y := range n + 1 {
					if slices.Contains(ends(t, q, w, x), y) != slices.Contains(ends(t, m, backwards(w), n-y), n-x) {
						t.Fatal("from", x, "to", y, q, w)
					}
				}
			}
		}
	}
}

// P6.9
func TestEndsAndBeginsBelongTogether(t *testing.T) {
	r := rand.New(rand.NewSource(69))
	for _, q := range sample(69) {
		for _, n := range []int{r.Intn(7), 32} {
			w := randomWord(r, n)
			for x := range n + 1 {
				l := ends(t, q, w, x)
				if !slices.IsSorted(l) || len(slices.Compact(slices.Clone(l))) < len(l) {
					t.Fatal("not in order", q, w, x, l)
				}
				for y := range n + 1 {
					begins, e := pats.Begins(q, w, y)
					if e != api.OK || slices.Contains(l, y) != slices.Contains(begins, x) {
						t.Fatal("from", x, "to", y, q, w, e)
					}
				}
			}
		}
	}
}

// P6.10
func TestKindsBelongTogether(t *testing.T) {
	r := rand.New(rand.NewSource(610))
	l := sample(610)
	for range 1500 {
		q, s := l[r.Intn(len(l))], l[r.Intn(len(l))]
		w := randomWord(r, r.Intn(8))
		k := r.Intn(5)
		if pats.Size(q)*k >= api.MaxPat {
			k = 1
		}
		for x := range len(w) + 1 {
			var behind, either []int
			for _, y := range ends(t, q, w, x) {
				behind = append(behind, ends(t, s, w, y)...)
			}
			either = append(ends(t, q, w, x), ends(t, s, w, x)...)
			slices.Sort(behind)
			slices.Sort(either)
			if got := ends(t, seq(q, s), w, x); !slices.Equal(got, slices.Compact(behind)) {
				t.Fatal("PatSeq", q, s, w, x, got)
			}
			if got := ends(t, alt(q, s), w, x); !slices.Equal(got, slices.Compact(either)) {
				t.Fatal("PatAlt", q, s, w, x, got)
			}
			if got := ends(t, rep(k, k, q), w, x); !slices.Equal(got, ends(t, seq(slices.Repeat([]api.Pat{q}, k)...), w, x)) {
				t.Fatal("PatRep", k, q, w, x, got)
			}
		}
	}
}

// P6.11
func TestEmptyInEachWord(t *testing.T) {
	r := rand.New(rand.NewSource(611))
	for _, q := range append(sample(611), small(3)...) {
		is := pats.Empty(q)
		for _, n := range []int{2, 3, 4 + r.Intn(29)} {
			w := randomWord(r, n)
			for x := 1; x < n; x++ {
				if slices.Contains(ends(t, q, w, x), x) != is {
					t.Fatal(q, w, x, is)
				}
			}
		}
	}
}

// R3: a list that is nil is an empty one.
func TestNil(t *testing.T) {
	for _, q := range []api.Pat{empty, begin, end, seq(), alt(), vowel} {
		other := q
		other.L = []api.Pat{}
		if !pats.Equal(q, other) || pats.Size(other) != 1 || pats.Empty(q) != pats.Empty(other) {
			t.Error(q)
		}
		compare(t, q, nil)
		compare(t, other, api.Word{})
	}
}

// R4: arguments stay as they are, and what lies behind the end of a list is not read.
func TestArguments(t *testing.T) {
	hidden := []api.Pat{vowel, other, {Kind: 99}, sound(api.Sound{Plus: 1, Minus: 1})}
	make1 := func() (api.Pat, []api.Pat, []api.Pat) {
		outer, inner := slices.Clone(hidden), slices.Clone(hidden)
		outer[1] = rep(0, -1, vowel)
		outer[0] = api.Pat{Kind: api.PatSeq, L: inner[:1]}
		return api.Pat{Kind: api.PatSeq, L: outer[:2]}, outer, inner
	}
	q, outer, inner := make1()
	_, wantOuter, wantInner := make1()
	sounds := append(read("aapp"), api.Sound{Plus: 1, Minus: 1})
	w, before := sounds[:3], slices.Clone(sounds)
	compare(t, q, w)
	m, _ := pats.Mirror(q)
	_ = pats.Empty(q) || pats.Equal(q, q)
	if !reflect.DeepEqual(outer, wantOuter) || !reflect.DeepEqual(inner, wantInner) || !slices.Equal(sounds, before) {
		t.Error("changed", outer, inner, sounds)
	}
	want := duplicate(m)
	change(&m, func(n *api.Pat) {
		n.L = append(n.L, empty)
		n.Kind = -7
	})
	if !reflect.DeepEqual(outer, wantOuter) || !reflect.DeepEqual(inner, wantInner) {
		t.Error("shared with the mirror", outer, inner)
	}
	if again, _ := pats.Mirror(q); !reflect.DeepEqual(again, want) {
		t.Error("not the same again", again)
	}
	single := api.Pat{Kind: api.PatSound, Is: a, L: hidden[:0]}
	m, _ = pats.Mirror(single)
	_ = append(m.L, api.Pat{Kind: -7})
	if hidden[0].Kind != api.PatSound {
		t.Error("shared room with the mirror")
	}
}

// R4, R8: results are new each time, and the same.
func TestResults(t *testing.T) {
	w := read("aapa")
	q := rep(0, -1, vowel)
	first, _ := pats.Ends(q, w, 0)
	second, _ := pats.Ends(q, w, 0)
	begins, _ := pats.Begins(q, w, 2)
	first[0], first[1] = 77, 78
	begins[0] = 79
	again, _ := pats.Begins(q, w, 2)
	if !slices.Equal(second, []int{0, 1, 2}) || !slices.Equal(again, []int{0, 1, 2}) {
		t.Error(second, again)
	}
	if l, _ := pats.Ends(q, w, 0); !slices.Equal(l, second) {
		t.Error(l)
	}
}

// The examples of the chapter.
func TestExamples(t *testing.T) {
	apa := read("apa")
	if l, e := pats.Ends(vowel, apa, 0); !slices.Equal(l, []int{1}) || e != api.OK {
		t.Error(l, e)
	}
	if l, e := pats.Ends(vowel, apa, 1); len(l) > 0 || e != api.OK {
		t.Error(l, e)
	}
	if l, e := pats.Ends(vowel, apa, 4); len(l) > 0 || e != api.ErrRange {
		t.Error(l, e)
	}
	if m, e := pats.Mirror(seq(begin, vowel)); !pats.Equal(m, seq(vowel, end)) || e != api.OK {
		t.Error(m, e)
	}
	if e := pats.Check(api.Pat{Kind: api.PatSound, Min: 1}); e != api.ErrArg {
		t.Error(e)
	}
	if e := pats.Check(seq(slices.Repeat([]api.Pat{empty}, 40)...)); e != api.ErrMany {
		t.Error(e)
	}
}
