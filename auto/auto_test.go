package auto_test

import (
	"math"
	"math/big"
	"math/rand"
	"slices"
	"testing"

	"ablaut/api"
	"ablaut/auto"
	"ablaut/pats"
)

// compare compares an automaton with what it should accept, in all lists of up to some number of sounds.
func compare(t *testing.T, x *auto.Auto, sounds []api.Sound, is accepted, most int) {
	t.Helper()
	all := lists(most, sounds)
	counts := make([]int64, most+1)
	var want []api.Word
	for _, w := range all {
		ok := is(w)
		if x.Accepts(w) != ok {
			t.Fatal("Accepts", w, !ok)
		}
		if ok {
			want = append(want, w)
			counts[len(w)]++
		}
	}
	for n, number := range counts {
		if got, e := x.Count(n); got != number || e != api.OK {
			t.Fatal("Count", n, got, number, e)
		}
	}
	for _, n := range []int{1, 7, 1000} {
		first := want[:min(n, len(want))]
		got := x.Words(n)
		if len(got) < len(first) || len(got) > n || !slices.EqualFunc(got[:len(first)], first, slices.Equal) || len(got) > len(first) && len(got[len(first)]) <= most {
			t.Fatal("Words", n, got, first)
		}
	}
	w, ok := x.Shortest()
	if len(want) > 0 && (!ok || !slices.Equal(w, want[0])) || len(want) == 0 && ok && len(w) <= most || !ok && len(w) > 0 {
		t.Fatal("Shortest", w, ok, want)
	}
}

// same checks that two automata accept the same, also of lists of more than 32 sounds.
func same(t *testing.T, x, y *auto.Auto) {
	t.Helper()
	if x.States() != y.States() {
		t.Fatal("States", x.States(), y.States())
	}
	if x.States()*y.States() > 4096 {
		return
	}
	for i, z := range []*auto.Auto{and(t, x, y.Not()), and(t, x.Not(), y)} {
		if z.States() != 1 || z.Accepts(nil) {
			t.Fatal("what just one accepts", i, z.States(), z.Words(3))
		}
	}
}

// checkBuild checks the error of Build.
func checkBuild(t *testing.T, q api.Pat, sounds []api.Sound, want api.Errno) {
	t.Helper()
	if x, e := auto.Build(q, sounds); e != want || (x == nil) != (e != api.OK) {
		t.Error("Build", e, want)
	}
}

// P7.1: the model matches what layer 6 matches.
func TestModel(t *testing.T) {
	r := rand.New(rand.NewSource(70))
	for range 3000 {
		q, w := random(r, 1+r.Intn(12)), randomList(r, r.Intn(9), eight())
		if ok, e := pats.Matches(q, w); ok != matches(q, w) || e != api.OK {
			t.Fatal(q, w, ok, e)
		}
	}
}

// P7.1, P7.2, P7.3, P7.4: all patterns of up to three nodes.
func TestSmallPatterns(t *testing.T) {
	for n := 1; n <= 3; n++ {
		for _, q := range small(n) {
			if tooWide(q) {
				t.Fatal("not small", q)
			}
			for _, sounds := range [][]api.Sound{list("ap"), list("a"), nil} {
				x := build(t, q, sounds)
				compare(t, x, sounds, by(q), 4)
				if len(sounds) < 2 {
					compare(t, x, sounds, by(q), 12)
					if k := states(by(q), sounds, 12); x.States() != k {
						t.Fatal("States", q, sounds, x.States(), k)
					}
				}
			}
		}
	}
}

// P7.1, P7.2: the states of all patterns of up to three nodes.
func TestStatesOfSmallPatterns(t *testing.T) {
	sounds := list("pa")
	for n := 1; n <= 3; n++ {
		for i, q := range small(n) {
			if n == 3 && i%7 > 0 {
				continue
			}
			if x, k := build(t, q, sounds), states(by(q), sounds, 6); x.States() != k {
				t.Fatal("States", q, x.States(), k)
			}
		}
	}
}

// P7.1, P7.2, P7.3, P7.4
func TestRandomPatterns(t *testing.T) {
	r := rand.New(rand.NewSource(71))
	for range 2500 {
		q, sounds := randomNarrow(r, 1+r.Intn(12)), randomSounds(r, r.Intn(9))
		compare(t, build(t, q, sounds), sounds, by(q), reaches(sounds))
	}
	for range 400 {
		q, sounds := randomNarrow(r, 13+r.Intn(28)), randomSounds(r, 1+r.Intn(8))
		x := build(t, q, sounds)
		for range 20 {
			w := randomList(r, r.Intn(33), sounds)
			if ok, e := pats.Matches(q, w); x.Accepts(w) != ok || e != api.OK {
				t.Fatal("Accepts", q, w, !ok, e)
			}
		}
	}
}

// P7.1, P7.2: the number of states also depends on lists of more than 32 sounds.
func TestStatesOfRandomPatterns(t *testing.T) {
	r := rand.New(rand.NewSource(72))
	for range 250 {
		q := randomNarrow(r, 2+r.Intn(12))
		if x, k := build(t, q, one), states(by(q), one, 90); x.States() != k {
			t.Fatal("States", q, x.States(), k)
		}
	}
	for range 60 {
		q, sounds := randomNarrow(r, 2+r.Intn(10)), randomSounds(r, 2)
		if x, k := build(t, q, sounds), states(by(q), sounds, 7); x.States() != k {
			t.Fatal("States", q, sounds, x.States(), k)
		}
	}
}

// P7.1: the beginning and the end of the word in the middle of a pattern.
func TestBeginAndEnd(t *testing.T) {
	onlyEmpty, nothing, everything := build(t, empty, list("pa")), build(t, none, list("pa")), build(t, star(any1), list("pa"))
	for k, x := range []struct {
		q    api.Pat
		want *auto.Auto
	}{
		{begin, onlyEmpty}, {end, onlyEmpty}, {seq(begin, end), onlyEmpty}, {seq(end, begin), onlyEmpty}, {seq(end, begin, end, begin), onlyEmpty},
		{seq(), onlyEmpty}, {alt(empty), onlyEmpty}, {rep(0, 0, any1), onlyEmpty}, {rep(0, 0, none), onlyEmpty}, {star(none), onlyEmpty}, {star(begin), onlyEmpty}, {rep(3, 9, end), onlyEmpty},
		{seq(any1, begin), nothing}, {seq(end, any1), nothing}, {seq(any1, begin, any1), nothing}, {seq(any1, end, any1), nothing}, {rep(1, 1, none), nothing}, {rep(1, -1, none), nothing}, {but(zero), nothing},
		{seq(star(any1), begin), onlyEmpty}, {seq(end, star(any1)), onlyEmpty}, {seq(rep(0, 1, any1), begin, rep(0, 1, end)), onlyEmpty}, {star(seq(end, any1)), onlyEmpty},
		{seq(begin, star(any1), end), everything}, {star(alt(any1, begin, end)), everything}, {star(seq(any1, alt(end, empty))), everything}, {star(star(any1)), everything}, {seq(alt(begin, any1), star(any1)), everything},
		{star(seq(alt(begin, any1), alt(end, any1))), build(t, star(any1), list("pa"))},
		{seq(star(any1), begin, star(any1)), everything}, {seq(star(any1), end, star(any1)), everything},
		{star(seq(any1, end)), build(t, rep(0, 1, any1), list("pa"))}, {star(seq(begin, any1)), build(t, rep(0, 1, any1), list("pa"))},
		{rep(2, 2, seq(begin, rep(0, 1, any1))), build(t, rep(0, 1, any1), list("pa"))}, {rep(2, -1, alt(seq(any1, end), begin)), build(t, rep(0, 1, any1), list("pa"))},
		{rep(2, 3, alt(any1, end)), build(t, alt(empty, rep(1, 3, any1)), list("pa"))}, {rep(2, 2, alt(any1, begin)), build(t, rep(0, 2, any1), list("pa"))}, {rep(2, 2, alt(stop, end)), build(t, rep(0, 2, stop), list("pa"))},
	} {
		t.Log(k)
		y := build(t, x.q, list("pa"))
		compare(t, y, list("pa"), by(x.q), 5)
		same(t, y, x.want)
	}
}

// P7.1
func TestAlphabets(t *testing.T) {
	for n := range 9 {
		checkBuild(t, vowel, eight()[:n], api.OK)
	}
	nine := append(eight(), api.Sound{Plus: 8})
	for _, sounds := range [][]api.Sound{nine, append(eight(), eight()...), append(eight(), zero, zero), make([]api.Sound, 9), slices.Repeat(invalid()[:1], 9), make([]api.Sound, 10000)} {
		checkBuild(t, vowel, sounds, api.ErrMany)
	}
	for _, s := range invalid() {
		checkBuild(t, vowel, []api.Sound{s}, api.ErrSound)
		checkBuild(t, vowel, []api.Sound{p, a, s}, api.ErrSound)
		checkBuild(t, vowel, []api.Sound{s, p, a}, api.ErrSound)
		checkBuild(t, vowel, []api.Sound{s, s}, api.ErrSound)
		checkBuild(t, vowel, []api.Sound{p, p, s}, api.ErrSound)
		checkBuild(t, vowel, append(eight()[:7:7], s), api.ErrSound)
		checkBuild(t, vowel, append(eight(), s), api.ErrMany)
	}
	for _, sounds := range [][]api.Sound{{p, p}, {zero, zero}, {p, b, a, p}, {p, b, b, a}, append(eight()[1:], eight()[4]), make([]api.Sound, 8)} {
		checkBuild(t, vowel, sounds, api.ErrHave)
	}
	// Sounds without values, and with one value more, are other sounds.
	checkBuild(t, vowel, []api.Sound{zero, {Plus: 4}, {Minus: 4}, {Plus: 4, Minus: 1}, {Plus: 1 << 23}, {Minus: 1 << 23}, {Plus: 1<<24 - 1}, {Minus: 1<<24 - 1}}, api.OK)
}

// P7.1: which sounds satisfy a condition, and which do not.
func TestConditions(t *testing.T) {
	sounds := []api.Sound{zero, {Plus: 4}, {Minus: 4}, {Plus: 4, Minus: 1}, {Plus: 1 << 23}, {Minus: 1 << 23}, {Plus: 1<<24 - 1}, {Minus: 1<<24 - 1}}
	for _, is := range append(sounds, p, b, a) {
		for _, q := range []api.Pat{sound(is), but(is), seq(but(is), sound(is)), star(sound(is)), seq(star(but(is)), sound(is))} {
			compare(t, build(t, q, sounds), sounds, by(q), 2)
		}
	}
}

// P7.1
func TestWidth(t *testing.T) {
	v := vowel
	for k, x := range []struct {
		q    api.Pat
		wide bool
	}{
		{broad(11, v), false}, {broad(12, v), true}, {alt(broad(11, v).L...), false}, {alt(broad(12, v).L...), true},
		{seq(broad(6, v), alt(v, v, v, v, v)), false}, {seq(broad(6, v), alt(v, v, v, v, v, other)), true},
		{times(10, v), false}, {times(11, v), true}, {rep(0, 10, v), false}, {rep(0, 11, v), true}, {rep(10, -1, v), false}, {rep(11, -1, v), true}, {rep(3, 10, v), false}, {rep(3, 11, v), true}, {rep(32, -1, v), true}, {rep(0, 32, v), true}, {rep(32, 32, v), true},
		{rep(0, -1, broad(11, v)), false}, {rep(0, -1, broad(12, v)), true}, {rep(1, -1, broad(11, v)), false}, {rep(2, -1, broad(6, v)), false}, {rep(2, -1, broad(7, v)), true}, {rep(0, 0, broad(11, v)), false}, {rep(0, 0, broad(12, v)), true}, {rep(0, 1, broad(11, v)), false}, {rep(0, 1, broad(12, v)), true},
		{rep(2, 5, rep(1, 2, v)), false}, {rep(2, 5, rep(1, 3, v)), true}, {rep(0, 0, rep(0, 0, broad(11, v))), false}, {rep(0, 0, rep(0, 0, broad(12, v))), true}, {rep(0, 0, times(11, v)), true}, {times(11, rep(0, 0, v)), true}, {times(10, rep(0, 0, v)), false},
		{within(39, 0, -1, v), false}, {within(39, 1, 1, v), false}, {within(3, 2, 2, v), false}, {within(4, 2, 2, v), true}, {within(39, 2, 2, v), true}, {within(39, 32, 32, v), true}, {within(39, 0, 32, v), true}, {within(39, 32, -1, v), true}, {seq(within(32, 4, 4, v), v), true}, {within(13, 32, 32, v), true}, {within(12, 32, -1, v), true}, {seq(within(16, 16, 16, v), within(16, 16, 16, v)), true},
		{broad(40, empty), false}, {broad(40, begin), false}, {broad(40, end), false}, {broad(40, seq()), false}, {broad(40, none), false}, {deep(40, v), false}, {deep(40, times(10, v).L[0]), false},
		{seq(broad(11, v), begin, end, empty, alt(), seq()), false}, {seq(broad(11, v), begin, other), true},
	} {
		want := api.OK
		if x.wide {
			want = api.ErrMany
		}
		if tooWide(x.q) != x.wide {
			t.Error("width", k, widthOf(x.q))
		}
		t.Log(k)
		checkBuild(t, x.q, list("pa"), want)
	}
}

// P7.1, P1: repetitions of what has no sounds may be more than could be counted.
func TestRepetitionsWithoutSounds(t *testing.T) {
	sounds := list("pa")
	for k, x := range []struct {
		q    api.Pat
		want api.Pat
	}{
		{within(38, 32, 32, begin), empty}, {within(38, 32, -1, end), empty}, {within(38, 0, 32, none), empty}, {within(38, 1, 32, none), none}, {within(38, 32, 32, none), none}, {within(38, 0, -1, alt(begin)), empty},
		{seq(within(35, 32, 32, alt(begin, end)), vowel), vowel}, {seq(vowel, within(35, 32, -1, alt(begin, end))), vowel}, {seq(vowel, within(30, 32, 32, alt(begin, end)), vowel), none}, {seq(vowel, within(30, 0, 32, begin), vowel), seq(vowel, vowel)}, {seq(vowel, within(30, 32, 32, empty), vowel), seq(vowel, vowel)},
		{times(10, seq(within(30, 32, 32, empty), vowel)), times(10, vowel)}, {rep(0, -1, seq(within(30, 32, 32, begin), vowel)), rep(0, 1, vowel)},
		{rep(0, 32, none), empty}, {rep(0, 0, begin), empty}, {rep(1, 1, begin), empty}, {rep(0, -1, end), empty}, {seq(vowel, rep(0, 0, begin), vowel), seq(vowel, vowel)}, {seq(vowel, rep(0, 1, begin), vowel), seq(vowel, vowel)}, {seq(vowel, rep(1, 1, begin), vowel), none}, {seq(vowel, rep(1, -1, end), vowel), none}, {seq(vowel, rep(2, 32, end)), vowel}, {seq(rep(2, 32, end), vowel), none},
		{times(32, times(32, seq())), empty}, {rep(32, -1, rep(0, 0, begin)), empty},
	} {
		t.Log(k)
		y := build(t, x.q, sounds)
		compare(t, y, sounds, by(x.want), 4)
		same(t, y, build(t, x.want, sounds))
	}
}

// P7.1
func TestRepetitions(t *testing.T) {
	for _, q := range []api.Pat{vowel, alt(vowel, empty), alt(vowel, seq(vowel, vowel)), seq(vowel, rep(0, 1, vowel)), alt(seq(vowel, vowel), end), alt(begin, vowel), seq(alt(begin, vowel), vowel), rep(0, 0, vowel), rep(2, -1, vowel)} {
		for least := range 6 {
			for most := -1; most < 11; most++ {
				if s := rep(least, most, q); pats.Check(s) == api.OK && !tooWide(s) {
					x := build(t, s, one)
					compare(t, x, one, by(s), 32)
					if k := states(by(s), one, 60); x.States() != k {
						t.Error("States", s, x.States(), k)
					}
				}
			}
		}
	}
}

// P7.1: the first error.
func TestErrorsOfBuild(t *testing.T) {
	badArg, badSound, many, wide := api.Pat{Kind: 7}, sound(api.Sound{Plus: 1, Minus: 1}), broad(41, vowel), times(11, vowel)
	tooMany, bad, twice := make([]api.Sound, 9), []api.Sound{p, {Plus: 1, Minus: 1}}, list("pap")
	inItself := make([]api.Pat, 1)
	inItself[0] = seq(inItself...)
	for k, x := range []struct {
		q    api.Pat
		want api.Errno
	}{
		{badArg, api.ErrArg}, {badSound, api.ErrSound}, {many, api.ErrMany}, {inItself[0], api.ErrMany},
		{rep(2, 1, vowel), api.ErrArg}, {rep(0, 33, vowel), api.ErrArg}, {rep(0, -2, vowel), api.ErrArg}, {rep(-1, -1, vowel), api.ErrArg}, {rep(33, -1, vowel), api.ErrArg}, {rep(0, -1), api.ErrArg}, {rep(0, -1, vowel, vowel), api.ErrArg}, {rep(math.MinInt, math.MaxInt, vowel), api.ErrArg},
		{seq(wide, badSound), api.ErrSound}, {seq(wide, badArg), api.ErrArg}, {seq(badSound, badArg), api.ErrSound}, {seq(badArg, badSound), api.ErrArg}, {seq(wide, many), api.ErrMany}, {api.Pat{Max: 1}, api.ErrArg}, {rep(0, 0, badSound), api.ErrSound},
	} {
		for i, sounds := range [][]api.Sound{nil, list("pa"), tooMany, bad, twice} {
			t.Log(k, i)
			checkBuild(t, x.q, sounds, x.want)
		}
	}
	checkBuild(t, wide, tooMany, api.ErrMany)
	checkBuild(t, wide, bad, api.ErrSound)
	checkBuild(t, wide, twice, api.ErrHave)
	checkBuild(t, wide, list("pa"), api.ErrMany)
	checkBuild(t, wide, nil, api.ErrMany)
}

// P7.2
func TestAccepts(t *testing.T) {
	all, s := build(t, star(any1), list("pa")), build(t, example, list("pba"))
	for n := range 33 {
		if w := slices.Repeat(list("a"), n); !all.Accepts(w) || !s.Accepts(append(list("p"), w[:max(n, 1)-1]...)) {
			t.Error("not accepted", n)
		}
	}
	for _, n := range []int{33, 34, 64, 65, 1000} {
		if w := slices.Repeat(list("a"), n); all.Accepts(w) || all.Not().Accepts(w) || s.Accepts(append(list("p"), w[1:]...)) {
			t.Error("accepted", n)
		}
	}
	for k, w := range [][]api.Sound{{b}, {zero}, {p, b}, {b, p}, {{Plus: 2}}, {{Plus: 2, Minus: 1}}, {p, p, {Plus: 5}}, append(slices.Repeat(list("a"), 31), b), append(slices.Repeat(list("a"), 32), b)} {
		if all.Accepts(w) || all.Not().Accepts(w) {
			t.Error("a sound that is not in the alphabet", k)
		}
	}
	for _, z := range invalid() {
		if all.Accepts([]api.Sound{z}) || all.Not().Accepts([]api.Sound{p, z, a}) {
			t.Error("a sound that is not valid", z)
		}
	}
	for _, x := range []*auto.Auto{build(t, empty, nil), build(t, star(any1), nil)} {
		if !x.Accepts(nil) || !x.Accepts(api.Word{}) || x.Accepts(list("a")) || x.Not().Accepts(nil) || x.Not().Accepts(list("a")) || x.Not().Accepts(make(api.Word, 33)) {
			t.Error("no alphabet")
		}
	}
}

// P7.2: numbers of states that are known.
func TestStates(t *testing.T) {
	pa, pba := list("pa"), list("pba")
	type row struct {
		q      api.Pat
		sounds []api.Sound
		want   int
	}
	rows := []row{
		{example, pba, 3}, {example, nil, 1}, {example, list("a"), 1}, {example, list("p"), 3}, {example, list("b"), 3}, {example, list("pb"), 3},
		{none, nil, 1}, {none, pa, 1}, {empty, nil, 1}, {empty, pa, 2}, {star(any1), pa, 1}, {star(any1), nil, 1}, {any1, pa, 3}, {any1, nil, 1}, {vowel, pa, 3}, {vowel, list("p"), 1}, {vowel, list("a"), 3},
		{star(vowel), pa, 2}, {star(vowel), list("a"), 1}, {star(vowel), list("p"), 2}, {rep(1, -1, any1), pa, 2}, {rep(10, -1, any1), pa, 11}, {times(10, any1), pa, 12}, {rep(0, 10, any1), pa, 12}, {rep(5, 10, any1), pa, 12}, {star(times(10, any1)), pa, 10}, {star(times(10, vowel)), pa, 11},
		{alt(seq(sound(p), sound(a)), seq(sound(b), sound(a))), pba, 4}, {alt(seq(sound(p), sound(a)), seq(sound(b), sound(p))), pba, 5}, {seq(star(alt(stop, vowel)), stop), pba, 2}, {seq(star(any1), inTurn(list("papa"))), pba, 5}, {seq(star(any1), inTurn(list("papa")), star(any1)), pba, 5},
		{inTurn(list("papapapapa")), pba, 12}, {seq(stop, star(any1), stop), pba, 4}, {alt(star(sound(p)), star(sound(a))), pa, 4},
	}
	for k := range 9 {
		// Whether the last sounds but k were stops has to be kept in mind.
		rows = append(rows, row{seq(star(any1), stop, times(k, any1)), pba, 2 << k})
	}
	for k, x := range rows {
		y := build(t, x.q, x.sounds)
		if y.States() != x.want || y.Not().States() != x.want {
			t.Error(k, y.States(), y.Not().States(), x.want)
		}
	}
}

// P7.1, P7.2, P7.6: numbers of sounds beyond those of words.
func TestLongLists(t *testing.T) {
	cycle := func(m int) *auto.Auto { return every(t, 0, m) }
	for k, x := range []struct {
		x    *auto.Auto
		want int
	}{
		{and(t, cycle(8), cycle(9)), 72}, {and(t, cycle(8), cycle(9), cycle(7)), 504}, {and(t, cycle(6), cycle(9)), 18}, {and(t, cycle(8), cycle(4)), 8},
		{and(t, cycle(5), every(t, 2, 7)), 35}, {and(t, cycle(8), every(t, 1, 4)), 1}, {and(t, cycle(8), cycle(9), atLeast(t, 1)), 73}, {and(t, cycle(8), cycle(9), atLeast(t, 10)), 73}, {and(t, every(t, 0, 9), every(t, 1, 8), atLeast(t, 10)), 82},
		{and(t, cycle(8), cycle(9), atLeast(t, 1).Not()), 2}, {and(t, cycle(7).Not(), cycle(9).Not()), 63}, {and(t, cycle(8), cycle(9), cycle(5), cycle(7)), 2520},
	} {
		if x.x.States() != x.want || x.x.Not().States() != x.want {
			t.Error(k, x.x.States(), x.x.Not().States(), x.want)
		}
	}
	// These differ from others in the 72nd sound for the first time.
	long := and(t, cycle(8), cycle(9))
	later := and(t, long, atLeast(t, 1))
	if w, ok, e := auto.Differ(long, build(t, empty, one)); ok || len(w) > 0 || e != api.OK {
		t.Error("Differ", w, ok, e)
	}
	if w, ok := later.Shortest(); ok || len(w) > 0 || len(later.Words(1000)) > 0 {
		t.Error("Shortest", w, ok)
	}
	if l := long.Words(1000); len(l) != 1 || len(l[0]) > 0 {
		t.Error("Words", l)
	}
	for n := range 33 {
		if k, e := later.Count(n); k != 0 || e != api.OK {
			t.Error("Count", n, k, e)
		}
		if k, e := later.Not().Count(n); k != 1 || e != api.OK {
			t.Error("Count of Not", n, k, e)
		}
	}
}

// P7.3: words in the order of the sounds, whatever the order of the alphabet is.
func TestOrderOfWords(t *testing.T) {
	r := rand.New(rand.NewSource(73))
	for range 100 {
		sounds := randomSounds(r, 1+r.Intn(8))
		l := build(t, star(any1), sounds).Words(1000)
		if len(sounds) > 1 && len(l) != 1000 || len(sounds) == 1 && len(l) != 33 {
			t.Fatal("Words", len(l))
		}
		if want := lists(min(len(l[len(l)-1]), 9), sounds); len(sounds) > 1 && !slices.EqualFunc(l, want[:len(l)], slices.Equal) {
			t.Fatal("Words", sounds, l)
		}
	}
	for _, sounds := range [][]api.Sound{list("pba"), list("pab"), list("bpa"), list("bap"), list("apb"), list("abp")} {
		l := build(t, example, sounds).Words(5)
		if !slices.EqualFunc(l, []api.Word{list("p"), list("b"), list("pa"), list("ba"), list("paa")}, slices.Equal) {
			t.Error(sounds, l)
		}
	}
	// By Plus first, and by Minus then.
	sounds := []api.Sound{{Minus: 8}, {Plus: 1}, zero, {Minus: 4}, {Plus: 1, Minus: 2}}
	l := build(t, any1, sounds).Words(9)
	if !slices.EqualFunc(l, []api.Word{{zero}, {{Minus: 4}}, {{Minus: 8}}, {{Plus: 1}}, {{Plus: 1, Minus: 2}}}, slices.Equal) {
		t.Error(l)
	}
}

// P7.3
func TestHowManyWords(t *testing.T) {
	all := build(t, star(any1), eight())
	for _, x := range [][2]int{{0, 0}, {-1, 0}, {math.MinInt, 0}, {1, 1}, {2, 2}, {9, 9}, {10, 10}, {999, 999}, {1000, 1000}, {1001, 1000}, {1 << 32, 1000}, {math.MaxInt, 1000}} {
		if l := all.Words(x[0]); len(l) != x[1] {
			t.Error(x, len(l))
		}
	}
	for k, x := range []struct {
		x    *auto.Auto
		want int
	}{
		{build(t, none, eight()), 0}, {build(t, empty, eight()), 1}, {build(t, any1, eight()), 8}, {build(t, rep(0, 3, any1), eight()), 585}, {build(t, rep(0, 4, any1), eight()), 1000}, {build(t, star(any1), one), 33}, {build(t, rep(1, -1, any1), one), 32}, {every(t, 0, 10), 4}, {every(t, 2, 10), 4}, {every(t, 3, 7), 5},
		{build(t, star(any1), nil), 1}, {build(t, rep(1, -1, any1), nil), 0}, {build(t, example, list("pba")), 64},
	} {
		if l := x.x.Words(1000); len(l) != x.want {
			t.Error(k, len(l), x.want)
		}
	}
}

// P7.3: words of 32 sounds are the last ones.
func TestLongWords(t *testing.T) {
	for n := 30; n < 36; n++ {
		// The only list with fewer than 64 sounds that both accept has n.
		x := and(t, every(t, n%8, 8), every(t, n%9, 9))
		w, ok := x.Shortest()
		if ok != (n <= 32) || ok && len(w) != n || !ok && len(w) > 0 || len(x.Words(5)) != len(w)/n {
			t.Error(n, len(w), ok, x.Words(5))
		}
		if k, e := x.Count(min(n, 32)); k != int64(len(w)/n) || e != api.OK {
			t.Error("Count", n, k, e)
		}
	}
	// What comes last is found behind many words that lead nowhere.
	x := build(t, seq(star(any1), sound(a)), list("bpa"))
	y := and(t, x, build(t, star(times(8, any1)), list("bpa")), build(t, star(times(4, alt(sound(p), sound(a)))), list("bpa")), build(t, seq(times(6, sound(p)), rep(0, -1, any1)), list("bpa")))
	l := y.Words(3)
	if !slices.EqualFunc(l, []api.Word{list("pppppppa"), list("ppppppaa"), append(slices.Repeat(list("p"), 15), a)}, slices.Equal) {
		t.Error(l)
	}
}

// P7.4
func TestCount(t *testing.T) {
	for k := 1; k <= 8; k++ {
		sounds := eight()[:k]
		all := build(t, star(any1), sounds)
		constant := build(t, star(sound(sounds[0])), sounds).Not()
		nothing := build(t, none, sounds)
		for n := range 33 {
			power := new(big.Int).Exp(big.NewInt(int64(k)), big.NewInt(int64(n)), nil)
			checkCount(t, all, n, power)
			checkCount(t, constant, n, power.Sub(power, big.NewInt(1)))
			checkCount(t, nothing, n, new(big.Int))
		}
	}
	// 2^63 - 1 is what fits.
	some := build(t, star(sound(eight()[3])), eight())
	if n, e := some.Not().Count(21); n != math.MaxInt64 || e != api.OK {
		t.Error(n, e)
	}
	if n, e := build(t, star(any1), eight()).Count(21); n != 0 || e != api.ErrOver {
		t.Error(n, e)
	}
	// 2^64, of which nothing is left in 64 bits.
	if n, e := build(t, star(any1), eight()[:4]).Count(32); n != 0 || e != api.ErrOver {
		t.Error(n, e)
	}
	// What is not accepted may be more than fits.
	if n, e := some.Count(32); n != 1 || e != api.OK {
		t.Error(n, e)
	}
	none := build(t, star(any1), nil)
	for n := range 33 {
		checkCount(t, none, n, big.NewInt(int64(max(0, 1-n))))
		checkCount(t, none.Not(), n, new(big.Int))
	}
}

func checkCount(t *testing.T, x *auto.Auto, n int, want *big.Int) {
	t.Helper()
	number, e := x.Count(n)
	if want.IsInt64() && (number != want.Int64() || e != api.OK) || !want.IsInt64() && (number != 0 || e != api.ErrOver) {
		t.Error("Count", n, number, e, want)
	}
}

// P7.4
func TestErrorsOfCount(t *testing.T) {
	for _, x := range []*auto.Auto{build(t, star(any1), eight()), build(t, none, nil), build(t, example, list("pba"))} {
		for _, n := range []int{-1, 33, 34, -2, 64, -32, 1 << 32, math.MaxInt, math.MinInt, math.MinInt + 32} {
			if k, e := x.Count(n); k != 0 || e != api.ErrRange {
				t.Error(n, k, e)
			}
		}
	}
	for _, x := range invalidAutos(t) {
		for _, n := range []int{-1, 0, 1, 32, 33} {
			if k, e := x.Count(n); k != 0 || e != api.ErrNil {
				t.Error(n, k, e)
			}
		}
	}
}

// P7.5, P7.6, P7.7: two patterns, and what comes of them.
func TestSets(t *testing.T) {
	r := rand.New(rand.NewSource(75))
	for range 1500 {
		sounds := randomSounds(r, r.Intn(6))
		q, s := randomNarrow(r, 1+r.Intn(9)), randomNarrow(r, 1+r.Intn(9))
		x, y := build(t, q, sounds), build(t, s, sounds)
		is, are, most := by(q), by(s), reaches(sounds)
		compare(t, x.Not(), sounds, func(w []api.Sound) bool { return !is(w) }, most)
		compare(t, and(t, x, y), sounds, func(w []api.Sound) bool { return is(w) && are(w) }, most)
		compare(t, and(t, x, y.Not()).Not(), sounds, func(w []api.Sound) bool { return !is(w) || are(w) }, most)
		var want api.Word
		found := false
		for _, w := range lists(most, sounds) {
			if is(w) != are(w) {
				want, found = w, true
				break
			}
		}
		w, ok, e := auto.Differ(x, y)
		if e != api.OK || found && (!ok || !slices.Equal(w, want)) || !found && ok && len(w) <= most || !ok && len(w) > 0 {
			t.Fatal("Differ", q, s, w, ok, e, want, found)
		}
	}
}

// P7.5, P7.6: the states of what comes of two patterns.
func TestStatesOfSets(t *testing.T) {
	r := rand.New(rand.NewSource(76))
	for range 150 {
		q, s := randomNarrow(r, 1+r.Intn(7)), randomNarrow(r, 1+r.Intn(7))
		for _, sounds := range [][]api.Sound{one, list("pa")} {
			is, are, most := by(q), by(s), 7-6*len(sounds)+28/len(sounds)
			x, y := build(t, q, sounds), build(t, s, sounds)
			if x.States() > 6 || y.States() > 6 {
				continue
			}
			both, either := and(t, x, y), and(t, x.Not(), y.Not()).Not()
			if k := states(func(w []api.Sound) bool { return is(w) && are(w) }, sounds, most); both.States() != k {
				t.Fatal("And", q, s, both.States(), k)
			}
			if k := states(func(w []api.Sound) bool { return is(w) || are(w) }, sounds, most); either.States() != k {
				t.Fatal("Not of And", q, s, either.States(), k)
			}
		}
	}
}

// checkBoth checks the errors of And and Differ, and the zero values beside them.
func checkBoth(t *testing.T, x, y *auto.Auto, want api.Errno) {
	t.Helper()
	if z, e := auto.And(x, y); e != want || (z == nil) != (e != api.OK) {
		t.Error("And", e, want)
	}
	if w, ok, e := auto.Differ(x, y); e != want || want != api.OK && (ok || len(w) > 0) {
		t.Error("Differ", w, ok, e, want)
	}
}

// P7.6, P7.7
func TestErrorsOfTwo(t *testing.T) {
	var l []*auto.Auto
	alphabets := [][]api.Sound{nil, list("p"), list("a"), list("pa"), list("ap"), list("pba"), list("pab"), list("apb"), eight(), eight()[:7]}
	for _, sounds := range alphabets {
		l = append(l, build(t, star(any1), sounds))
	}
	for i, x := range l {
		for j, y := range l {
			want := api.ErrArg
			if i == j {
				want = api.OK
			}
			checkBoth(t, x, y, want)
		}
	}
	wide := seq(star(any1), stop, times(7, any1))
	x, y := build(t, wide, list("pa")), build(t, wide, list("ap"))
	checkBoth(t, x, y, api.ErrArg)
	checkBoth(t, x, x, api.ErrMany)
	checkBoth(t, x, x.Not(), api.ErrMany)
	for _, z := range invalidAutos(t) {
		for _, v := range append(l, x) {
			checkBoth(t, z, v, api.ErrNil)
			checkBoth(t, v, z, api.ErrNil)
		}
		for _, v := range invalidAutos(t) {
			checkBoth(t, z, v, api.ErrNil)
		}
	}
}

// P7.6, P7.7: 4,096 pairs of states are not too many, whether they are reached or not.
func TestManyPairs(t *testing.T) {
	x16, x32, x64, x128, x256 := lastBut(t, 3), lastBut(t, 4), lastBut(t, 5), lastBut(t, 6), lastBut(t, 7)
	for k, x := range []struct {
		x, y *auto.Auto
		n    int
		want api.Errno
	}{
		{x64, x64, 4096, api.OK}, {x32, x128, 4096, api.OK}, {x16, x256, 4096, api.OK}, {x64, x64.Not(), 4096, api.OK}, {x64, x128, 8192, api.ErrMany}, {x32, x256, 8192, api.ErrMany}, {x256, x256, 65536, api.ErrMany},
	} {
		if n := x.x.States() * x.y.States(); n != x.n {
			t.Error(k, n)
		}
		checkBoth(t, x.x, x.y, x.want)
		checkBoth(t, x.y, x.x, x.want)
	}
	x65 := and(t, every(t, 1, 3), every(t, 0, 4), every(t, 4, 5), atLeast(t, 5))
	x82 := and(t, every(t, 0, 9), every(t, 1, 8), atLeast(t, 10))
	x50 := and(t, every(t, 1, 6), every(t, 0, 7), atLeast(t, 8))
	x63 := and(t, every(t, 0, 7), every(t, 0, 9))
	x64 = and(t, x63, atLeast(t, 1))
	x504 := and(t, x63, every(t, 0, 8))
	for k, x := range []struct {
		x, y *auto.Auto
		n    int
		want api.Errno
	}{
		{x63, x65, 4095, api.OK}, {x50, x82, 4100, api.ErrMany}, {x64, x64, 4096, api.OK}, {x64, x65, 4160, api.ErrMany}, {x504, every(t, 3, 8), 4032, api.OK}, {x504, every(t, 3, 9), 4536, api.ErrMany},
	} {
		if n := x.x.States() * x.y.States(); n != x.n {
			t.Error(k, n)
		}
		checkBoth(t, x.x, x.y, x.want)
		checkBoth(t, x.y, x.x, x.want)
	}
	some := build(t, rep(1, -1, any1), list("pa"))
	x17 := and(t, divided(t, p, 4), divided(t, a, 4), some)
	x241 := and(t, divided(t, p, 4), divided(t, p, 5), and(t, divided(t, a, 4), divided(t, a, 3)), some)
	if n := x17.States() * x241.States(); n != 4097 {
		t.Error(n)
	}
	checkBoth(t, x17, x241, api.ErrMany)
	checkBoth(t, x241, x17, api.ErrMany)
}

// lastBut accepts the words of p and a in which a stop is the last sound but n: it has 2^(n+1) states.
func lastBut(t *testing.T, n int) *auto.Auto {
	t.Helper()
	return build(t, seq(star(any1), stop, times(n, any1)), list("pa"))
}

// divided accepts the lists of p and a in which the number of one of these sounds can be divided by m.
func divided(t *testing.T, s api.Sound, m int) *auto.Auto {
	t.Helper()
	next := slices.Repeat([]api.Pat{star(but(s)), sound(s)}, m-1)
	return build(t, star(alt(but(s), seq(append([]api.Pat{sound(s)}, next...)...))), list("pa"))
}

// P7.6: as many states as there are pairs, in lists of any length.
func TestManyStates(t *testing.T) {
	sounds := list("pa")
	x := and(t, divided(t, p, 5), divided(t, p, 4), divided(t, a, 5), divided(t, a, 4))
	y := and(t, x, build(t, star(times(9, any1)), sounds))
	if x.States() != 400 || y.States() != 3600 || y.Not().States() != 3600 {
		t.Fatal("States", x.States(), y.States(), y.Not().States())
	}
	all, nothing := build(t, star(any1), sounds), build(t, none, sounds)
	if z := and(t, y, all); z.States() != 3600 {
		t.Error("And of all", z.States())
	}
	if z := and(t, nothing, y); z.States() != 1 || z.Accepts(nil) {
		t.Error("And of nothing", z.States())
	}
	checkBoth(t, y, build(t, empty, sounds), api.ErrMany)
	checkBoth(t, y, y, api.ErrMany)
	// 20 stops and 16 vowels are too many for a word, 20 of one and none of the other have the wrong sum.
	if l := y.Words(1000); len(l) != 1 || len(l[0]) > 0 {
		t.Error("Words", len(l))
	}
	if w, ok, e := auto.Differ(y, nothing); !ok || len(w) > 0 || e != api.OK {
		t.Error("Differ", w, ok, e)
	}
	compare(t, x, sounds, func(w []api.Sound) bool {
		stops := len(slices.DeleteFunc(slices.Clone(w), func(s api.Sound) bool { return s == a }))
		return stops%20 == 0 && (len(w)-stops)%20 == 0
	}, 11)
	if l := x.Words(1000); len(l) != 3 || !slices.Equal(l[1], slices.Repeat(list("p"), 20)) || !slices.Equal(l[2], slices.Repeat(list("a"), 20)) {
		t.Error("Words", l)
	}
}

// P7.7: the first difference has at most 32 sounds.
func TestFirstDifference(t *testing.T) {
	for n := range 36 {
		x := and(t, every(t, n%8, 8), every(t, n%9, 9))
		y := build(t, none, one)
		w, ok, e := auto.Differ(x, y)
		if ok != (n <= 32) || ok && len(w) != n || !ok && len(w) > 0 || e != api.OK {
			t.Error(n, len(w), ok, e)
		}
		v, fine, f := auto.Differ(y, x)
		if fine != ok || f != e || !slices.Equal(v, w) {
			t.Error("the other way round", n, len(v), fine, f)
		}
		if w, ok, e := auto.Differ(x.Not(), y.Not()); ok != fine || e != f || !slices.Equal(v, w) {
			t.Error("Not", n, len(w), ok, e)
		}
	}
	for k, x := range []struct {
		q, s api.Pat
		want string
		ok   bool
	}{
		{example, stop, "pa", true}, {stop, example, "pa", true}, {example, example, "", false}, {empty, none, "", true}, {star(any1), none, "", true}, {star(any1), rep(1, -1, any1), "", true}, {any1, none, "p", true}, {vowel, other, "p", true}, {sound(b), sound(a), "b", true}, {sound(a), none, "a", true},
		{seq(stop, vowel), seq(vowel, stop), "pa", true}, {seq(vowel, stop), none, "ap", true}, {rep(0, 3, any1), star(any1), "pppp", true}, {seq(begin, stop), seq(stop, end), "", false}, {star(star(stop)), star(stop), "", false}, {alt(vowel, stop), any1, "", false},
	} {
		for _, sounds := range [][]api.Sound{list("pba"), list("abp")} {
			w, ok, e := auto.Differ(build(t, x.q, sounds), build(t, x.s, sounds))
			if ok != x.ok || e != api.OK || !slices.Equal(w, list(x.want)) {
				t.Error(k, w, ok, e)
			}
		}
	}
}

// sample are automata over some sounds, also those that come of others.
func sample(t *testing.T, r *rand.Rand, sounds []api.Sound) []*auto.Auto {
	t.Helper()
	l := []*auto.Auto{build(t, none, sounds), build(t, empty, sounds), build(t, star(any1), sounds), build(t, example, sounds)}
	for range 4 {
		x := build(t, randomNarrow(r, 1+r.Intn(16)), sounds)
		l = append(l, x, x.Not())
	}
	for range 4 {
		if x, e := auto.And(l[r.Intn(len(l))], l[r.Intn(len(l))]); e == api.OK {
			l = append(l, x, x.Not())
		}
	}
	return l
}

// P7.8
func TestWordsAreCounted(t *testing.T) {
	r := rand.New(rand.NewSource(78))
	for range 100 {
		for _, x := range sample(t, r, randomSounds(r, r.Intn(9))) {
			most := 1 + r.Intn(1000)
			l := x.Words(most)
			for i, w := range l {
				if !x.Accepts(w) || i > 0 && before(l[i-1], w) >= 0 {
					t.Fatal("accepted", x.Accepts(w), i, l)
				}
			}
			if w, ok := x.Shortest(); ok != (len(l) > 0) || ok && !slices.Equal(w, l[0]) {
				t.Fatal("Shortest", w, ok, l)
			}
			left := len(l)
			for n := range 33 {
				listed := len(slices.DeleteFunc(slices.Clone(l), func(w api.Word) bool { return len(w) != n }))
				number, e := x.Count(n)
				left -= listed
				if left > 0 && (e != api.OK || number != int64(listed)) || e == api.OK && number < int64(listed) {
					t.Fatal("Count", n, number, e, listed)
				}
				if len(l) < most && (e != api.OK || number != int64(listed)) {
					t.Fatal("there are more", n, number, e, listed)
				}
			}
		}
	}
}

// P7.9
func TestSetsBelongTogether(t *testing.T) {
	r := rand.New(rand.NewSource(79))
	for range 60 {
		sounds := randomSounds(r, r.Intn(5))
		l := sample(t, r, sounds)
		nothing, all := build(t, none, sounds), build(t, star(any1), sounds)
		for _, x := range l {
			if x.States() != x.Not().States() || x.Not().Not().States() != x.States() {
				t.Fatal("States of Not", x.States(), x.Not().States())
			}
			same(t, x.Not().Not(), x)
			same(t, and(t, x, all), x)
			same(t, and(t, x, nothing), nothing)
			if x.States() > 64 {
				continue
			}
			same(t, and(t, x, x), x)
			same(t, and(t, x, x.Not()), nothing)
			same(t, and(t, x.Not(), x), nothing)
			y := l[r.Intn(len(l))]
			if x.States()*y.States() <= 4096 {
				same(t, and(t, x, y), and(t, y, x))
			}
		}
	}
}

// P7.10
func TestCountsAddUp(t *testing.T) {
	r := rand.New(rand.NewSource(710))
	for range 100 {
		sounds := randomSounds(r, r.Intn(9))
		for _, x := range sample(t, r, sounds) {
			for n := range 33 {
				left := new(big.Int).Exp(big.NewInt(int64(len(sounds))), big.NewInt(int64(n)), nil)
				number, e := x.Count(n)
				others, f := x.Not().Count(n)
				if e == api.OK {
					checkCount(t, x.Not(), n, left.Sub(left, big.NewInt(number)))
				} else if f == api.OK {
					checkCount(t, x, n, left.Sub(left, big.NewInt(others)))
				} else if left.BitLen() < 65 {
					t.Fatal("too many of both", n, left)
				}
			}
		}
	}
}

// P7.11
func TestDifferences(t *testing.T) {
	r := rand.New(rand.NewSource(711))
	for range 150 {
		l := sample(t, r, randomSounds(r, r.Intn(9)))
		for _, x := range l {
			y := l[r.Intn(len(l))]
			if x.States()*y.States() <= 4096 {
				w, ok, e := auto.Differ(x, y)
				if e != api.OK || ok && x.Accepts(w) == y.Accepts(w) || len(w) > 32 || !ok && len(w) > 0 {
					t.Fatal("Differ", w, ok, e)
				}
				if v, fine, f := auto.Differ(y, x); fine != ok || f != e || !slices.Equal(v, w) {
					t.Fatal("the other way round", v, fine, f, w, ok, e)
				}
			}
			if x.States() <= 64 {
				if w, ok, e := auto.Differ(x, x); ok || len(w) > 0 || e != api.OK {
					t.Fatal("from itself", w, ok, e)
				}
				if w, ok, e := auto.Differ(x, x.Not()); !ok || len(w) > 0 || e != api.OK {
					t.Fatal("from its Not", w, ok, e)
				}
			}
		}
	}
}

// invalidAutos are automata that are nil, or that no function of the package made.
func invalidAutos(t *testing.T) []*auto.Auto {
	t.Helper()
	x := *build(t, star(any1), list("pa"))
	return []*auto.Auto{nil, {}, new(auto.Auto), &x}
}

// R2
func TestInvalidAutos(t *testing.T) {
	for k, x := range invalidAutos(t) {
		if x.Accepts(nil) || x.Accepts(list("pa")) || x.States() != 0 || x.Not() != nil {
			t.Error(k, x.Accepts(nil), x.States(), x.Not())
		}
		if w, ok := x.Shortest(); ok || len(w) > 0 {
			t.Error(k, "Shortest", w, ok)
		}
		for _, most := range []int{-1, 0, 1, 1000, 2000} {
			if l := x.Words(most); len(l) > 0 {
				t.Error(k, "Words", most, l)
			}
		}
	}
}

// R3: a list that is nil is an empty one.
func TestNil(t *testing.T) {
	x, y := build(t, star(any1), nil), build(t, star(any1), []api.Sound{})
	same(t, x, y)
	if !y.Accepts(nil) || !x.Accepts(api.Word{}) {
		t.Error("the empty word")
	}
	same(t, build(t, api.Pat{Kind: api.PatSeq, L: []api.Pat{}}, one), build(t, seq(), one))
}

// R4: arguments stay as they are, are not kept, and what lies behind the end of a list is not read.
func TestArguments(t *testing.T) {
	sounds := append(list("apb"), api.Sound{Plus: 1, Minus: 1})
	inner := []api.Pat{vowel, {Kind: 99}}
	outer := []api.Pat{stop, {Kind: api.PatRep, Max: -1, L: inner[:1]}, end, {Kind: 99}}
	w := append(list("pa"), api.Sound{Plus: 1, Minus: 1})
	x := build(t, api.Pat{Kind: api.PatSeq, L: outer[:3]}, sounds[:3])
	y := build(t, stop, sounds[:3])
	check := func() {
		t.Helper()
		if !x.Accepts(w[:2]) || x.Accepts(list("ap")) || x.States() != 3 || len(x.Words(9)) != 9 {
			t.Error("not as it was", x.Words(9))
		}
		compare(t, x, list("apb"), by(example), 3)
		compare(t, and(t, x, y), list("apb"), by(stop), 3)
	}
	check()
	if !slices.Equal(sounds, append(list("apb"), api.Sound{Plus: 1, Minus: 1})) || !slices.Equal(w, append(list("pa"), api.Sound{Plus: 1, Minus: 1})) || !pats.Equal(seq(outer[:3]...), example) {
		t.Error("changed", sounds, outer, w)
	}
	inner[0], outer[0], outer[1] = other, vowel, stop
	sounds[0], sounds[1], sounds[2] = zero, zero, zero
	check()
}

// R4, R8: results are new each time, and the same.
func TestResults(t *testing.T) {
	x := build(t, example, list("pba"))
	for range 3 {
		l := x.Words(6)
		if !slices.EqualFunc(l, []api.Word{list("p"), list("b"), list("pa"), list("ba"), list("paa"), list("baa")}, slices.Equal) {
			t.Fatal("Words", l)
		}
		for i := range l {
			before := slices.Clone(l[5])
			_ = append(l[i][:len(l[i]):cap(l[i])], zero, zero)
			for k := range l[i] {
				l[i][k] = zero
			}
			if i < 5 && !slices.Equal(l[5], before) {
				t.Error("words share memory", i, l)
			}
		}
		w, ok := x.Shortest()
		if !ok || !slices.Equal(w, list("p")) {
			t.Fatal("Shortest", w, ok)
		}
		w[0] = zero
		v, ok, e := auto.Differ(x, build(t, stop, list("pba")))
		if !ok || !slices.Equal(v, list("pa")) || e != api.OK {
			t.Fatal("Differ", v, ok, e)
		}
		v[0], v[1] = zero, zero
		compare(t, x, list("pba"), by(example), 3)
	}
	y := x.Not()
	if y == x || y.Not() == x || and(t, x, x) == x {
		t.Error("not new")
	}
	compare(t, x, list("pba"), by(example), 3)
}

// The examples of the chapter.
func TestExamples(t *testing.T) {
	x := build(t, example, list("pba"))
	if x.States() != 3 || !x.Accepts(list("paa")) || !x.Accepts(list("p")) || x.Accepts(list("apa")) || x.Accepts(nil) {
		t.Error(x.States(), x.Accepts(list("paa")), x.Accepts(list("p")), x.Accepts(list("apa")), x.Accepts(nil))
	}
	if w, ok := x.Shortest(); !ok || !slices.Equal(w, list("p")) {
		t.Error(w, ok)
	}
	for n, want := range []int64{0, 2, 2} {
		if k, e := x.Count(n); k != want || e != api.OK {
			t.Error(n, k, e)
		}
	}
	if l := x.Words(4); !slices.EqualFunc(l, []api.Word{list("p"), list("b"), list("pa"), list("ba")}, slices.Equal) {
		t.Error(l)
	}
	if k, e := x.Not().Count(1); k != 1 || e != api.OK || x.Not().States() != 3 {
		t.Error(k, e, x.Not().States())
	}
	if w, ok, e := auto.Differ(x, build(t, stop, list("pba"))); !ok || !slices.Equal(w, list("pa")) || e != api.OK {
		t.Error(w, ok, e)
	}
	checkBuild(t, example, append(eight(), api.Sound{Plus: 8}), api.ErrMany)
	checkBuild(t, example, list("pp"), api.ErrHave)
}
